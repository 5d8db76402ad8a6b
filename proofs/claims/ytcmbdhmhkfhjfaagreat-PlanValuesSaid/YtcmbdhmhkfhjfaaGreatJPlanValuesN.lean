/-
  The statement PlanValues of outstationlaw10 holds: for every input that can be read, the call returns true, and each argument reads as it did. No condition of its own.
-/
import Derived.Test.YtcmbdhmhkfhjfaaGreatJPlanValuesM
import Derived.Test.YtcmbdhmhkfhjfaaGreatJPlanValuesI
import Derived.Test.YtcmbdhmhkfhjfaaGreatJPlanValuesH
import Derived.Test.YtcmbdhmhkfhjfaaGreatJPlanValuesG
import Derived.Test.YtcmbdhmhkfhjfaaGreatRows
import Derived.Test.YtcmbdhmhkfhjfaaGreatJPlanValuesC
namespace Go.Proofs.YtcmbdhmhkfhjfaaGreat.I
open Go.RowKit
set_option linter.unusedVariables false
theorem spoilO_at (p l r : List Int) (k : Nat) (hk : k < l.length) : nth (p ++ spoilI k l ++ r) (p.length + k) = nth l k := by
  rw [nth_left _ _ _ (by rw [List.length_append, spoilI_length]; omega), nth_right, spoilI_at k l hk]
theorem spoilO_set (p l r : List Int) (k : Nat) (hk : k < l.length) : (p ++ spoilI k l ++ r).set (p.length + k) (bits .xor .i64 (nth l k) 77) = p ++ spoilI (k + 1) l ++ r := by
  rw [List.set_append_left _ _ (by rw [List.length_append, spoilI_length]; omega), List.set_append_right _ _ (by omega), Nat.add_sub_cancel_left, spoilI_set k l hk]

set_option maxHeartbeats 400000 in
theorem spoilO_i64 (g o n c : Nat) (p l r : List Int) (w : World) (hg : w.heap[g]? = some (.cells (blk .i64 (p ++ l ++ r)) 3 (0, 0))) (hp : p.length = o) (hl : l.length = c) (hn : n ≤ c) (hc : c ≤ 17592186044416) :
    Calls Tryz.prog 34 #[.slice (some ⟨g, o, none⟩) n c] w fun e w' => e = .returned (.tuple #[]) ∧ w'.heap[g]? = some (.cells (blk .i64 (p ++ spoilI c l ++ r)) 3 (0, 0)) ∧ w.grownBy w' (some g) ∧ w'.heap.size = w.heap.size := by
  have hl' := Lib.hid hl
  have hp' := Lib.hid hp
  clear hl hp
  go_enter Tryz.func34, Tryz.ntmps34
  go_wp2
  go_loopw [3] (fun i wr => ∃ k : Nat, k ≤ c ∧ i = .int .i64 k ∧ Hid (wr.heap[g]? = some (.cells (blk .i64 (p ++ spoilI k l ++ r)) 3 (0, 0))) ∧ w.grownBy wr (some g) ∧ Hid (wr.heap.size = w.heap.size)) (fun i _ => c - (intOf i).toNat)
  case atStart => exact ⟨0, by omega, rfl, Lib.hid (by rw [spoilI_zero]; exact hg), World.grownBy.refl _ _, Lib.hid rfl⟩
  case round =>
    obtain ⟨k, hk, rfl, hb, hgr, hsz⟩ := hrel
    by_cases hlt : k < c
    · have hc1 : wr.cell? ⟨g, o + k, none⟩ = some (.int .i64 (nth l k)) := by
        rw [cell_of_row wr g (o + k) _ _ _ hb.out, blk_get _ _ _ (by rw [List.length_append, List.length_append, spoilI_length, hl'.out, hp'.out]; omega), ← hp'.out, spoilO_at p l r k (by have := hl'.out; omega)]
      have hfz := block_frozen wr g (o + k) _ _ hb.out
      have hnew := Lib.hid (block_setCell wr g (o + k) .i64 3 _ (bits .xor .i64 (nth l k) 77) hb.out)
      rw [show (p ++ spoilI k l ++ r).set (o + k) (bits .xor .i64 (nth l k) 77) = p ++ spoilI (k + 1) l ++ r by rw [← hp'.out]; exact spoilO_set p l r k (by have := hl'.out; omega)] at hnew
      have hgr2 := grown_setCell hgr (o + k) (.int .i64 (bits .xor .i64 (nth l k) 77))
      have hsz2 : Hid ((wr.setCell ⟨g, o + k, none⟩ (.int .i64 (bits .xor .i64 (nth l k) 77))).heap.size = w.heap.size) := by
        show _ = _
        rw [← hsz.out]; simp [World.setCell]
      go_wp2
      go_roundw
      case rel => exact ⟨k + 1, by omega, by go_num, hnew, hgr2, hsz2⟩
      case measure => simp [intOf]; omega
    · obtain rfl : k = c := by omega
      go_wp2
      go_end0
      exact ⟨rfl, hb.out, hgr, hsz.out⟩
/-- A row inside a block that is known whole. -/
theorem Row.inside {k : IntKind} {w : World} {g : Nat} {t : TypeId} {fr : Nat × Nat} {p l r : List Int} (hg : w.heap[g]? = some (.cells (blk k (p ++ l ++ r)) t fr)) (xs : List Int) (hw : ∀ x ∈ xs, (Lit.int k x).wf = true) (hp : xs <+: l) :
    Row k w (g + 1) (some ⟨g, p.length, none⟩) xs := by
  obtain ⟨ys, rfl⟩ := hp
  refine ⟨hw, fun _ => ⟨_, _, rfl, Nat.lt_succ_self _, fun i hi => ?_⟩⟩
  rw [cell_of_row w g _ _ _ _ hg, blk_get _ _ _ (by simp; omega), nth_left _ _ _ (by simp; omega), nth_right, nth_left _ _ _ hi]
/-- Rows that lie inside blocks of their own, each known whole (or nil), their slices in the array of block gl. -/
structure PartsO (w : World) (B gl m : Nat) (A : Nat → Option Addr) (n c : Nat → Nat) (p l r : Nat → List Int) : Prop where
  at_ : ∀ k, k < m → w.cell? ⟨gl, k, none⟩ = some (.slice (A k) (n k) (c k))
  size : ∀ k, k < m → n k ≤ c k ∧ c k ≤ 17592186044416 ∧ (l k).length = c k
  wf : ∀ k, k < m → ∀ x ∈ l k, (Lit.int .i64 x).wf = true
  lies : ∀ k, k < m → (A k = none ∧ n k = 0 ∧ c k = 0) ∨ ∃ g, A k = some ⟨g, (p k).length, none⟩ ∧ B ≤ g ∧ g ≠ gl ∧ w.heap[g]? = some (.cells (blk .i64 (p k ++ l k ++ r k)) 3 (0, 0))
  apart : ∀ i k, i < m → k < m → i ≠ k → ∀ g o q, A i = some ⟨g, o, none⟩ → A k ≠ some ⟨g, q, none⟩
  gl_lt : gl < w.heap.size

theorem PartsO.row {w : World} {B gl m : Nat} {A : Nat → Option Addr} {n c : Nat → Nat} {p l r : Nat → List Int} (h : PartsO w B gl m A n c p l r) {k : Nat} (hk : k < m) :
    Row .i64 w w.heap.size (A k) ((l k).take (n k)) ∧ ((l k).take (n k)).length = n k := by
  have hs := h.size k hk
  refine ⟨?_, by simp; omega⟩
  rcases h.lies k hk with ⟨ha, hn, hc⟩ | ⟨g, ha, _, _, hg⟩
  · rw [hn, List.take_zero]; exact Row.nil _ _ _ _
  · rw [ha]
    exact (Row.inside hg _ (fun x hx => h.wf k hk x (List.mem_of_mem_take hx)) (List.take_prefix _ _)).more (block_lt hg)
/-- A step that leaves all old blocks leaves the parts. -/
theorem PartsO.below {w w' : World} {B gl m : Nat} {A : Nat → Option Addr} {n c : Nat → Nat} {p l r : Nat → List Int} (h : PartsO w B gl m A n c p l r) (hb : Below w.heap.size w w') : PartsO w' B gl m A n c p l r where
  at_ := fun k hk => (hb.cell (p := ⟨gl, k, none⟩) h.gl_lt).trans (h.at_ k hk)
  size := h.size
  wf := h.wf
  lies := fun k hk => by
    rcases h.lies k hk with h0 | ⟨g, ha, hB, hne, hg⟩
    · exact .inl h0
    · exact .inr ⟨g, ha, hB, hne, (hb.block g (block_lt hg)).trans hg⟩
  apart := h.apart
  gl_lt := Nat.lt_of_lt_of_le h.gl_lt hb.size
/-- One part is written over. -/
theorem PartsO.spoil {w w' : World} {B gl m : Nat} {A : Nat → Option Addr} {n c : Nat → Nat} {p l r : Nat → List Int} (h : PartsO w B gl m A n c p l r) {i g : Nat} (hi : i < m) (ha : A i = some ⟨g, (p i).length, none⟩)
    (hg : w'.heap[g]? = some (.cells (blk .i64 (p i ++ spoilI (c i) (l i) ++ r i)) 3 (0, 0))) (hgr : w.grownBy w' (some g)) : PartsO w' B gl m A n c p (fun k => if k = i then spoilI (c i) (l i) else l k) r where
  at_ := fun k hk => by
    rcases h.lies i hi with ⟨h0, _⟩ | ⟨g', ha', _, hne, _⟩
    · rw [ha] at h0; cases h0
    · rw [ha] at ha'
      injection ha' with ha'
      injection ha' with ha'
      subst ha'
      exact (World.cell?_of_block (hgr.block gl h.gl_lt (fun e => hne (by injection e with e; exact e.symm)))).trans (h.at_ k hk)
  size := fun k hk => by
    have := h.size k hk
    refine ⟨this.1, this.2.1, ?_⟩
    split
    · rename_i e; subst e; rw [spoilI_length]; exact this.2.2
    · exact this.2.2
  wf := fun k hk => by
    show ∀ x ∈ (if k = i then spoilI (c i) (l i) else l k), _
    split
    · exact spoilI_wf _ _ (h.wf i hi)
    · exact h.wf k hk
  lies := fun k hk => by
    by_cases e : k = i
    · subst e
      rcases h.lies k hi with ⟨h0, _⟩ | ⟨g', ha', hB, hne, _⟩
      · rw [ha] at h0; cases h0
      · rw [ha] at ha'
        injection ha' with ha'
        injection ha' with ha'
        subst ha'
        exact .inr ⟨g, ha, hB, hne, by rw [if_pos rfl]; exact hg⟩
    · rcases h.lies k hk with h0 | ⟨g', ha', hB, hne, hg'⟩
      · exact .inl h0
      · refine .inr ⟨g', ha', hB, hne, ?_⟩
        rw [if_neg e, hgr.block g' (block_lt hg') (fun e' => ?_)]
        · exact hg'
        · injection e' with e'
          subst e'
          exact h.apart k i hk hi e _ _ _ ha' ha
  apart := h.apart
  gl_lt := Nat.lt_of_lt_of_le h.gl_lt hgr.size

set_option maxHeartbeats 1000000 in
theorem apartO_i64 (gl m B : Nat) (A : Nat → Option Addr) (n c : Nat → Nat) (p l0 r : Nat → List Int) (w : World) (hP : PartsO w B gl m A n c p l0 r) (hB : B ≤ w.heap.size) (hm : m ≤ 1000) :
    Calls Tryz.prog 13 #[.slice (some ⟨gl, 0, none⟩) m m] w fun e w' => e = .returned (.bool true) ∧ Below B w w' := by
  go_enter Tryz.func13, Tryz.ntmps13
  go_wp2
  go_loopw [3, 4, 5] (fun i _ _ wr => ∃ (j : Nat) (l : Nat → List Int), j ≤ m ∧ i = .int .i64 j ∧ PartsO wr B gl m A n c p l r ∧ Below B w wr) (fun i _ _ _ => m - (intOf i).toNat)
  case atStart => exact ⟨0, l0, by omega, rfl, hP, Below.refl _ _⟩
  case round =>
    obtain ⟨i, l1, hi, rfl, hP1, hb1⟩ := hrel
    by_cases hlt : i < m
    · go_wp2
      obtain ⟨wo, hwo⟩ : ∃ wo : World, wo = wr := ⟨_, rfl⟩
      subst hwo
      go_loopw [4, 5] (fun k _ wr => ∃ (j : Nat) (l : Nat → List Int), j ≤ m ∧ k = .int .i64 j ∧ PartsO wr B gl m A n c p l r ∧ Below B w wr) (fun k _ _ => m - (intOf k).toNat)
      case atStart => exact ⟨0, l1, by omega, rfl, hP1, hb1⟩
      case round =>
        obtain ⟨k, l, hk, rfl, hP2, hb2⟩ := hrel
        by_cases hlk : k < m
        · by_cases hik : i = k
          · subst hik
            go_wp2
            go_roundw
            case rel => exact ⟨i + 1, l, by omega, by go_num, hP2, hb2⟩
            case measure => simp [intOf]; omega
          · have ht : ((i : Int) == (k : Int)) = false := by simp; omega
            have hck := hP2.at_ k hlk
            have hci := hP2.at_ i hlt
            obtain ⟨hrow, hrl⟩ := hP2.row hlk
            have hrl' := Lib.hid hrl
            clear hrl
            have hsk := hP2.size k hlk
            go_wp2_with fail
            refine (copy_i64 _ _ _ _ _ hrow hrl'.out (by omega)).mono ?_
            rintro e w1 ⟨v1, rfl, own1, bel1⟩
            have hP3 := hP2.below bel1
            have hb3 : Below B w w1 := hb2.trans (bel1.mono (Nat.le_trans hB hb2.size))
            have hck1 := hP3.at_ k hlk
            have hci1 := hP3.at_ i hlt
            have hwf := hrow.1
            rcases hP3.lies i hlt with ⟨hA, hN, hC⟩ | ⟨g, hA, hBg, hgl, hg⟩
            · rw [hA, hN, hC] at hci1
              clear hA hN hC hck hci hrow
              obtain ⟨A1, c1, rfl, row1, _, _⟩ := own1.row hwf
              rw [hrl'.out]
              obtain ⟨hrow3, hrl3⟩ := hP3.row hlk
              have hrl3' := Lib.hid hrl3
              clear hrl3
              go_wp2_with fail
              refine (spoil_nil _).mono ?_
              rintro e w' ⟨rfl, rfl⟩
              go_wp2_with fail
              refine (same_yes_i64 _ _ _ _ _ _ _ _ _ row1 hrow3 hrl3'.out (by omega)).mono ?_
              rintro e w' ⟨rfl, mq, rfl⟩
              have hP4 := hP3.below (w' := w1.drewN mq) ⟨rfl, rfl, rfl, Nat.le_refl _, fun _ _ => rfl⟩
              have hb4 : Below B w (w1.drewN mq) := hb3.trans ⟨rfl, rfl, rfl, Nat.le_refl _, fun _ _ => rfl⟩
              go_wp2
              go_roundw
              case rel => exact ⟨k + 1, l, by omega, by go_num, hP4, hb4⟩
              case measure => simp [intOf]; omega
            · have hsi := hP3.size i hlt
              have hglt : g < wr.heap.size := by
                rcases hP2.lies i hlt with ⟨h0, _⟩ | ⟨g', hA', _, _, hg'⟩
                · rw [hA] at h0; cases h0
                · rw [hA] at hA'
                  injection hA' with hA'
                  injection hA' with hA'
                  rw [hA']
                  exact block_lt hg'
              rw [hA] at hci1
              clear hck hci hrow
              have hsi3 := Lib.hid hsi.2.2
              go_wp2_with fail
              refine (spoilO_i64 g _ _ _ (p i) (l i) (r i) _ hg rfl hsi3.out hsi.1 hsi.2.1).mono ?_
              rintro e w2 ⟨rfl, hg2, hgr2, hsz2⟩
              have hP4 := hP3.spoil hlt hA hg2 hgr2
              have hb4 : Below B w w2 := hb3.grown hgr2 (Nat.le_trans hB hb3.size) (fun q e => by injection e; omega)
              have own2 := own1.kept hgr2 (by
                cases hv : v1.ownBlock with
                | none => exact .inl rfl
                | some q =>
                  refine .inr fun e => ?_
                  have h1 := (own1.block q hv).1
                  injection e with e
                  omega)
              have hck2 := hP4.at_ k hlk
              obtain ⟨hrow4, hrl4⟩ := hP4.row hlk
              simp only [if_neg (show ¬ k = i by omega)] at hrow4 hrl4
              have hrl4' := Lib.hid hrl4
              obtain ⟨A1, c1, rfl, row1, _, _⟩ := own2.row hwf
              rw [hrl'.out]
              clear hsz2 hrl4 hck1 hci1 hgr2 hg2 hg hA
              go_wp2_with fail
              refine (same_yes_i64 _ _ _ _ _ _ _ _ _ row1 hrow4 hrl4'.out (by omega)).mono ?_
              rintro e w' ⟨rfl, mq, rfl⟩
              have hP5 := hP4.below (w' := w2.drewN mq) ⟨rfl, rfl, rfl, Nat.le_refl _, fun _ _ => rfl⟩
              have hb5 : Below B w (w2.drewN mq) := hb4.trans ⟨rfl, rfl, rfl, Nat.le_refl _, fun _ _ => rfl⟩
              go_wp2
              go_roundw
              case rel => exact ⟨k + 1, _, by omega, by go_num, hP5, hb5⟩
              case measure => simp [intOf]; omega
        · go_wp2
          go_roundw
          case rel => exact ⟨i + 1, l, by omega, by go_num, hP2, hb2⟩
          case measure => simp [intOf]; omega
    · go_wp2
      go_ret
      exact ⟨rfl, hb1⟩

/-- A slice that is handed to ApartInts: nil, or the beginning of a block that is known whole. -/
structure EntO where
  a : Option Nat
  p : List Int
  n : Nat
  c : Nat
  l : List Int
  r : List Int
def EntO.none_ : EntO := ⟨none, [], 0, 0, [], []⟩
def EntO.adr (e : EntO) : Option Addr := e.a.map fun g => ⟨g, e.p.length, none⟩
def EntO.val (e : EntO) : Value := .slice e.adr e.n e.c
structure EntO.Ok (w : World) (B : Nat) (e : EntO) : Prop where
  size : e.n ≤ e.c ∧ e.c ≤ 17592186044416 ∧ e.l.length = e.c
  wf : ∀ x ∈ e.l, (Lit.int .i64 x).wf = true
  lies : (e.a = none ∧ e.n = 0 ∧ e.c = 0) ∨ ∃ g, e.a = some g ∧ B ≤ g ∧ w.heap[g]? = some (.cells (blk .i64 (e.p ++ e.l ++ e.r)) 3 (0, 0))
def EntO.Far (e e' : EntO) : Prop := ∀ g, e.a = some g → e'.a ≠ some g
theorem EntO.adr_some {e : EntO} {g o : Nat} (h : e.adr = some ⟨g, o, none⟩) : e.a = some g := by
  unfold EntO.adr at h
  cases ha : e.a with
  | none => rw [ha] at h; cases h
  | some q => rw [ha] at h; simp at h; rw [h.1]

theorem partsO_of_list (w : World) (B : Nat) (L : List EntO) (t : TypeId) (hok : ∀ e ∈ L, e.Ok w B) (hfar : L.Pairwise EntO.Far) :
    PartsO (w.alloc (.cells (L.map EntO.val).toArray t)) B w.heap.size L.length (fun k => (L.getD k EntO.none_).adr) (fun k => (L.getD k EntO.none_).n) (fun k => (L.getD k EntO.none_).c) (fun k => (L.getD k EntO.none_).p) (fun k => (L.getD k EntO.none_).l) (fun k => (L.getD k EntO.none_).r) where
  at_ := fun k hk => by
    rw [World.cell?_alloc_at _ _ _ _ rfl]
    simp [List.getElem?_eq_getElem hk, List.getD_eq_getElem?_getD, EntO.val]
  size := fun k hk => by
    simp only [List.getD_eq_getElem?_getD, List.getElem?_eq_getElem hk, Option.getD_some]
    exact (hok _ (List.getElem_mem hk)).size
  wf := fun k hk => by
    simp only [List.getD_eq_getElem?_getD, List.getElem?_eq_getElem hk, Option.getD_some]
    exact (hok _ (List.getElem_mem hk)).wf
  lies := fun k hk => by
    simp only [List.getD_eq_getElem?_getD, List.getElem?_eq_getElem hk, Option.getD_some]
    rcases (hok _ (List.getElem_mem hk)).lies with ⟨h1, h2⟩ | ⟨g, h1, h2, h3⟩
    · exact .inl ⟨by rw [EntO.adr, h1]; rfl, h2⟩
    · have := block_lt h3
      exact .inr ⟨g, by rw [EntO.adr, h1]; rfl, h2, by omega, (Below.heap_alloc w _ g this).trans h3⟩
  apart := fun i k hi hk hne g o q h1 h2 => by
    simp only [List.getD_eq_getElem?_getD, List.getElem?_eq_getElem hi, List.getElem?_eq_getElem hk, Option.getD_some] at h1 h2
    have h1 := EntO.adr_some h1
    have h2 := EntO.adr_some h2
    rcases Nat.lt_or_gt_of_ne hne with h | h
    · exact List.pairwise_iff_getElem.1 hfar i k hi hk h g h1 h2
    · exact List.pairwise_iff_getElem.1 hfar k i hk hi h g h2 h1
  gl_lt := by simp

theorem apartO_list_i64 (w : World) (B : Nat) (L : List EntO) (t : TypeId) (hok : ∀ e ∈ L, e.Ok w B) (hfar : L.Pairwise EntO.Far) (hB : B ≤ w.heap.size) (hm : L.length ≤ 1000) :
    Calls Tryz.prog 13 #[.slice (some ⟨w.heap.size, 0, none⟩) L.length L.length] (w.alloc (.cells (L.map EntO.val).toArray t)) fun e w' => e = .returned (.bool true) ∧ Below B w w' :=
  (apartO_i64 _ _ B _ _ _ _ _ _ _ (partsO_of_list w B L t hok hfar) (by simp; omega) hm).mono fun _ _ ⟨he, hb⟩ => ⟨he, ((Below.refl B w).alloc hB _).trans hb⟩
end Go.Proofs.YtcmbdhmhkfhjfaaGreat.I
namespace Go.Proofs.YtcmbdhmhkfhjfaaGreat.I
open Go.RowKit
set_option linter.unusedVariables false
set_option maxHeartbeats 400000 in
theorem spoilK_i64 (g o n c : Nat) (p l r : List Int) (w : World) (hg : w.heap[g]? = some (.cells (blk .i64 (p ++ l ++ r)) 3 (0, 0))) (hp : p.length = o) (hl : l.length = c) (hn : n ≤ c) (hc : c ≤ 9223372036854775807) :
    Calls Tryz.prog 34 #[.slice (some ⟨g, o, none⟩) n c] w fun e w' => e = .returned (.tuple #[]) ∧ w'.heap[g]? = some (.cells (blk .i64 (p ++ spoilI c l ++ r)) 3 (0, 0)) ∧ w.grownBy w' (some g) ∧ w'.heap.size = w.heap.size := by
  have hl' := Lib.hid hl
  have hp' := Lib.hid hp
  clear hl hp
  go_enter Tryz.func34, Tryz.ntmps34
  go_wp2
  go_loopw [3] (fun i wr => ∃ k : Nat, k ≤ c ∧ i = .int .i64 k ∧ Hid (wr.heap[g]? = some (.cells (blk .i64 (p ++ spoilI k l ++ r)) 3 (0, 0))) ∧ w.grownBy wr (some g) ∧ Hid (wr.heap.size = w.heap.size)) (fun i _ => c - (intOf i).toNat)
  case atStart => exact ⟨0, by omega, rfl, Lib.hid (by rw [spoilI_zero]; exact hg), World.grownBy.refl _ _, Lib.hid rfl⟩
  case round =>
    obtain ⟨k, hk, rfl, hb, hgr, hsz⟩ := hrel
    by_cases hlt : k < c
    · have hc1 : wr.cell? ⟨g, o + k, none⟩ = some (.int .i64 (nth l k)) := by
        rw [cell_of_row wr g (o + k) _ _ _ hb.out, blk_get _ _ _ (by rw [List.length_append, List.length_append, spoilI_length, hl'.out, hp'.out]; omega), ← hp'.out, spoilO_at p l r k (by have := hl'.out; omega)]
      have hfz := block_frozen wr g (o + k) _ _ hb.out
      have hnew := Lib.hid (block_setCell wr g (o + k) .i64 3 _ (bits .xor .i64 (nth l k) 77) hb.out)
      rw [show (p ++ spoilI k l ++ r).set (o + k) (bits .xor .i64 (nth l k) 77) = p ++ spoilI (k + 1) l ++ r by rw [← hp'.out]; exact spoilO_set p l r k (by have := hl'.out; omega)] at hnew
      have hgr2 := grown_setCell hgr (o + k) (.int .i64 (bits .xor .i64 (nth l k) 77))
      have hsz2 : Hid ((wr.setCell ⟨g, o + k, none⟩ (.int .i64 (bits .xor .i64 (nth l k) 77))).heap.size = w.heap.size) := by
        show _ = _
        rw [← hsz.out]; simp [World.setCell]
      go_wp2
      go_roundw
      case rel => exact ⟨k + 1, by omega, by go_num, hnew, hgr2, hsz2⟩
      case measure => simp [intOf]; omega
    · obtain rfl : k = c := by omega
      go_wp2
      go_end0
      exact ⟨rfl, hb.out, hgr, hsz.out⟩
/-- Rows that lie inside blocks of their own, each known whole (or nil), their slices in the array of block gl. -/
structure PartsK (w : World) (B gl m : Nat) (A : Nat → Option Addr) (n c : Nat → Nat) (p l r : Nat → List Int) : Prop where
  at_ : ∀ k, k < m → w.cell? ⟨gl, k, none⟩ = some (.slice (A k) (n k) (c k))
  size : ∀ k, k < m → n k ≤ c k ∧ (c k ≤ 9223372036854775807 ∧ n k ≤ 17592186044416) ∧ (l k).length = c k
  wf : ∀ k, k < m → ∀ x ∈ l k, (Lit.int .i64 x).wf = true
  lies : ∀ k, k < m → (A k = none ∧ n k = 0 ∧ c k = 0) ∨ ∃ g, A k = some ⟨g, (p k).length, none⟩ ∧ B ≤ g ∧ g ≠ gl ∧ w.heap[g]? = some (.cells (blk .i64 (p k ++ l k ++ r k)) 3 (0, 0))
  apart : ∀ i k, i < m → k < m → i ≠ k → ∀ g o q, A i = some ⟨g, o, none⟩ → A k ≠ some ⟨g, q, none⟩
  gl_lt : gl < w.heap.size

theorem PartsK.row {w : World} {B gl m : Nat} {A : Nat → Option Addr} {n c : Nat → Nat} {p l r : Nat → List Int} (h : PartsK w B gl m A n c p l r) {k : Nat} (hk : k < m) :
    Row .i64 w w.heap.size (A k) ((l k).take (n k)) ∧ ((l k).take (n k)).length = n k := by
  have hs := h.size k hk
  refine ⟨?_, by simp; omega⟩
  rcases h.lies k hk with ⟨ha, hn, hc⟩ | ⟨g, ha, _, _, hg⟩
  · rw [hn, List.take_zero]; exact Row.nil _ _ _ _
  · rw [ha]
    exact (Row.inside hg _ (fun x hx => h.wf k hk x (List.mem_of_mem_take hx)) (List.take_prefix _ _)).more (block_lt hg)
/-- A step that leaves all old blocks leaves the parts. -/
theorem PartsK.below {w w' : World} {B gl m : Nat} {A : Nat → Option Addr} {n c : Nat → Nat} {p l r : Nat → List Int} (h : PartsK w B gl m A n c p l r) (hb : Below w.heap.size w w') : PartsK w' B gl m A n c p l r where
  at_ := fun k hk => (hb.cell (p := ⟨gl, k, none⟩) h.gl_lt).trans (h.at_ k hk)
  size := h.size
  wf := h.wf
  lies := fun k hk => by
    rcases h.lies k hk with h0 | ⟨g, ha, hB, hne, hg⟩
    · exact .inl h0
    · exact .inr ⟨g, ha, hB, hne, (hb.block g (block_lt hg)).trans hg⟩
  apart := h.apart
  gl_lt := Nat.lt_of_lt_of_le h.gl_lt hb.size
/-- One part is written over. -/
theorem PartsK.spoil {w w' : World} {B gl m : Nat} {A : Nat → Option Addr} {n c : Nat → Nat} {p l r : Nat → List Int} (h : PartsK w B gl m A n c p l r) {i g : Nat} (hi : i < m) (ha : A i = some ⟨g, (p i).length, none⟩)
    (hg : w'.heap[g]? = some (.cells (blk .i64 (p i ++ spoilI (c i) (l i) ++ r i)) 3 (0, 0))) (hgr : w.grownBy w' (some g)) : PartsK w' B gl m A n c p (fun k => if k = i then spoilI (c i) (l i) else l k) r where
  at_ := fun k hk => by
    rcases h.lies i hi with ⟨h0, _⟩ | ⟨g', ha', _, hne, _⟩
    · rw [ha] at h0; cases h0
    · rw [ha] at ha'
      injection ha' with ha'
      injection ha' with ha'
      subst ha'
      exact (World.cell?_of_block (hgr.block gl h.gl_lt (fun e => hne (by injection e with e; exact e.symm)))).trans (h.at_ k hk)
  size := fun k hk => by
    have := h.size k hk
    refine ⟨this.1, this.2.1, ?_⟩
    split
    · rename_i e; subst e; rw [spoilI_length]; exact this.2.2
    · exact this.2.2
  wf := fun k hk => by
    show ∀ x ∈ (if k = i then spoilI (c i) (l i) else l k), _
    split
    · exact spoilI_wf _ _ (h.wf i hi)
    · exact h.wf k hk
  lies := fun k hk => by
    by_cases e : k = i
    · subst e
      rcases h.lies k hi with ⟨h0, _⟩ | ⟨g', ha', hB, hne, _⟩
      · rw [ha] at h0; cases h0
      · rw [ha] at ha'
        injection ha' with ha'
        injection ha' with ha'
        subst ha'
        exact .inr ⟨g, ha, hB, hne, by rw [if_pos rfl]; exact hg⟩
    · rcases h.lies k hk with h0 | ⟨g', ha', hB, hne, hg'⟩
      · exact .inl h0
      · refine .inr ⟨g', ha', hB, hne, ?_⟩
        rw [if_neg e, hgr.block g' (block_lt hg') (fun e' => ?_)]
        · exact hg'
        · injection e' with e'
          subst e'
          exact h.apart k i hk hi e _ _ _ ha' ha
  apart := h.apart
  gl_lt := Nat.lt_of_lt_of_le h.gl_lt hgr.size

set_option maxHeartbeats 1000000 in
theorem apartK_i64 (gl m B : Nat) (A : Nat → Option Addr) (n c : Nat → Nat) (p l0 r : Nat → List Int) (w : World) (hP : PartsK w B gl m A n c p l0 r) (hB : B ≤ w.heap.size) (hm : m ≤ 1000) :
    Calls Tryz.prog 13 #[.slice (some ⟨gl, 0, none⟩) m m] w fun e w' => e = .returned (.bool true) ∧ Below B w w' := by
  go_enter Tryz.func13, Tryz.ntmps13
  go_wp2
  go_loopw [3, 4, 5] (fun i _ _ wr => ∃ (j : Nat) (l : Nat → List Int), j ≤ m ∧ i = .int .i64 j ∧ PartsK wr B gl m A n c p l r ∧ Below B w wr) (fun i _ _ _ => m - (intOf i).toNat)
  case atStart => exact ⟨0, l0, by omega, rfl, hP, Below.refl _ _⟩
  case round =>
    obtain ⟨i, l1, hi, rfl, hP1, hb1⟩ := hrel
    by_cases hlt : i < m
    · go_wp2
      obtain ⟨wo, hwo⟩ : ∃ wo : World, wo = wr := ⟨_, rfl⟩
      subst hwo
      go_loopw [4, 5] (fun k _ wr => ∃ (j : Nat) (l : Nat → List Int), j ≤ m ∧ k = .int .i64 j ∧ PartsK wr B gl m A n c p l r ∧ Below B w wr) (fun k _ _ => m - (intOf k).toNat)
      case atStart => exact ⟨0, l1, by omega, rfl, hP1, hb1⟩
      case round =>
        obtain ⟨k, l, hk, rfl, hP2, hb2⟩ := hrel
        by_cases hlk : k < m
        · by_cases hik : i = k
          · subst hik
            go_wp2
            go_roundw
            case rel => exact ⟨i + 1, l, by omega, by go_num, hP2, hb2⟩
            case measure => simp [intOf]; omega
          · have ht : ((i : Int) == (k : Int)) = false := by simp; omega
            have hck := hP2.at_ k hlk
            have hci := hP2.at_ i hlt
            obtain ⟨hrow, hrl⟩ := hP2.row hlk
            have hrl' := Lib.hid hrl
            clear hrl
            have hsk := hP2.size k hlk
            go_wp2_with fail
            refine (copy_i64 _ _ _ _ _ hrow hrl'.out (by omega)).mono ?_
            rintro e w1 ⟨v1, rfl, own1, bel1⟩
            have hP3 := hP2.below bel1
            have hb3 : Below B w w1 := hb2.trans (bel1.mono (Nat.le_trans hB hb2.size))
            have hck1 := hP3.at_ k hlk
            have hci1 := hP3.at_ i hlt
            have hwf := hrow.1
            rcases hP3.lies i hlt with ⟨hA, hN, hC⟩ | ⟨g, hA, hBg, hgl, hg⟩
            · rw [hA, hN, hC] at hci1
              clear hA hN hC hck hci hrow
              obtain ⟨A1, c1, rfl, row1, _, _⟩ := own1.row hwf
              rw [hrl'.out]
              obtain ⟨hrow3, hrl3⟩ := hP3.row hlk
              have hrl3' := Lib.hid hrl3
              clear hrl3
              go_wp2_with fail
              refine (spoil_nil _).mono ?_
              rintro e w' ⟨rfl, rfl⟩
              go_wp2_with fail
              refine (same_yes_i64 _ _ _ _ _ _ _ _ _ row1 hrow3 hrl3'.out (by omega)).mono ?_
              rintro e w' ⟨rfl, mq, rfl⟩
              have hP4 := hP3.below (w' := w1.drewN mq) ⟨rfl, rfl, rfl, Nat.le_refl _, fun _ _ => rfl⟩
              have hb4 : Below B w (w1.drewN mq) := hb3.trans ⟨rfl, rfl, rfl, Nat.le_refl _, fun _ _ => rfl⟩
              go_wp2
              go_roundw
              case rel => exact ⟨k + 1, l, by omega, by go_num, hP4, hb4⟩
              case measure => simp [intOf]; omega
            · have hsi := hP3.size i hlt
              have hglt : g < wr.heap.size := by
                rcases hP2.lies i hlt with ⟨h0, _⟩ | ⟨g', hA', _, _, hg'⟩
                · rw [hA] at h0; cases h0
                · rw [hA] at hA'
                  injection hA' with hA'
                  injection hA' with hA'
                  rw [hA']
                  exact block_lt hg'
              rw [hA] at hci1
              clear hck hci hrow
              have hsi3 := Lib.hid hsi.2.2
              go_wp2_with fail
              refine (spoilK_i64 g _ _ _ (p i) (l i) (r i) _ hg rfl hsi3.out hsi.1 hsi.2.1.1).mono ?_
              rintro e w2 ⟨rfl, hg2, hgr2, hsz2⟩
              have hP4 := hP3.spoil hlt hA hg2 hgr2
              have hb4 : Below B w w2 := hb3.grown hgr2 (Nat.le_trans hB hb3.size) (fun q e => by injection e; omega)
              have own2 := own1.kept hgr2 (by
                cases hv : v1.ownBlock with
                | none => exact .inl rfl
                | some q =>
                  refine .inr fun e => ?_
                  have h1 := (own1.block q hv).1
                  injection e with e
                  omega)
              have hck2 := hP4.at_ k hlk
              obtain ⟨hrow4, hrl4⟩ := hP4.row hlk
              simp only [if_neg (show ¬ k = i by omega)] at hrow4 hrl4
              have hrl4' := Lib.hid hrl4
              obtain ⟨A1, c1, rfl, row1, _, _⟩ := own2.row hwf
              rw [hrl'.out]
              clear hsz2 hrl4 hck1 hci1 hgr2 hg2 hg hA
              go_wp2_with fail
              refine (same_yes_i64 _ _ _ _ _ _ _ _ _ row1 hrow4 hrl4'.out (by omega)).mono ?_
              rintro e w' ⟨rfl, mq, rfl⟩
              have hP5 := hP4.below (w' := w2.drewN mq) ⟨rfl, rfl, rfl, Nat.le_refl _, fun _ _ => rfl⟩
              have hb5 : Below B w (w2.drewN mq) := hb4.trans ⟨rfl, rfl, rfl, Nat.le_refl _, fun _ _ => rfl⟩
              go_wp2
              go_roundw
              case rel => exact ⟨k + 1, _, by omega, by go_num, hP5, hb5⟩
              case measure => simp [intOf]; omega
        · go_wp2
          go_roundw
          case rel => exact ⟨i + 1, l, by omega, by go_num, hP2, hb2⟩
          case measure => simp [intOf]; omega
    · go_wp2
      go_ret
      exact ⟨rfl, hb1⟩

/-- A slice that is handed to ApartInts: nil, or the beginning of a block that is known whole. -/
structure EntK where
  a : Option Nat
  p : List Int
  n : Nat
  c : Nat
  l : List Int
  r : List Int
def EntK.none_ : EntK := ⟨none, [], 0, 0, [], []⟩
def EntK.adr (e : EntK) : Option Addr := e.a.map fun g => ⟨g, e.p.length, none⟩
def EntK.val (e : EntK) : Value := .slice e.adr e.n e.c
structure EntK.Ok (w : World) (B : Nat) (e : EntK) : Prop where
  size : e.n ≤ e.c ∧ (e.c ≤ 9223372036854775807 ∧ e.n ≤ 17592186044416) ∧ e.l.length = e.c
  wf : ∀ x ∈ e.l, (Lit.int .i64 x).wf = true
  lies : (e.a = none ∧ e.n = 0 ∧ e.c = 0) ∨ ∃ g, e.a = some g ∧ B ≤ g ∧ w.heap[g]? = some (.cells (blk .i64 (e.p ++ e.l ++ e.r)) 3 (0, 0))
def EntK.Far (e e' : EntK) : Prop := ∀ g, e.a = some g → e'.a ≠ some g
theorem EntK.adr_some {e : EntK} {g o : Nat} (h : e.adr = some ⟨g, o, none⟩) : e.a = some g := by
  unfold EntK.adr at h
  cases ha : e.a with
  | none => rw [ha] at h; cases h
  | some q => rw [ha] at h; simp at h; rw [h.1]

theorem partsK_of_list (w : World) (B : Nat) (L : List EntK) (t : TypeId) (hok : ∀ e ∈ L, e.Ok w B) (hfar : L.Pairwise EntK.Far) :
    PartsK (w.alloc (.cells (L.map EntK.val).toArray t)) B w.heap.size L.length (fun k => (L.getD k EntK.none_).adr) (fun k => (L.getD k EntK.none_).n) (fun k => (L.getD k EntK.none_).c) (fun k => (L.getD k EntK.none_).p) (fun k => (L.getD k EntK.none_).l) (fun k => (L.getD k EntK.none_).r) where
  at_ := fun k hk => by
    rw [World.cell?_alloc_at _ _ _ _ rfl]
    simp [List.getElem?_eq_getElem hk, List.getD_eq_getElem?_getD, EntK.val]
  size := fun k hk => by
    simp only [List.getD_eq_getElem?_getD, List.getElem?_eq_getElem hk, Option.getD_some]
    exact (hok _ (List.getElem_mem hk)).size
  wf := fun k hk => by
    simp only [List.getD_eq_getElem?_getD, List.getElem?_eq_getElem hk, Option.getD_some]
    exact (hok _ (List.getElem_mem hk)).wf
  lies := fun k hk => by
    simp only [List.getD_eq_getElem?_getD, List.getElem?_eq_getElem hk, Option.getD_some]
    rcases (hok _ (List.getElem_mem hk)).lies with ⟨h1, h2⟩ | ⟨g, h1, h2, h3⟩
    · exact .inl ⟨by rw [EntK.adr, h1]; rfl, h2⟩
    · have := block_lt h3
      exact .inr ⟨g, by rw [EntK.adr, h1]; rfl, h2, by omega, (Below.heap_alloc w _ g this).trans h3⟩
  apart := fun i k hi hk hne g o q h1 h2 => by
    simp only [List.getD_eq_getElem?_getD, List.getElem?_eq_getElem hi, List.getElem?_eq_getElem hk, Option.getD_some] at h1 h2
    have h1 := EntK.adr_some h1
    have h2 := EntK.adr_some h2
    rcases Nat.lt_or_gt_of_ne hne with h | h
    · exact List.pairwise_iff_getElem.1 hfar i k hi hk h g h1 h2
    · exact List.pairwise_iff_getElem.1 hfar k i hk hi h g h2 h1
  gl_lt := by simp

theorem apartK_list_i64 (w : World) (B : Nat) (L : List EntK) (t : TypeId) (hok : ∀ e ∈ L, e.Ok w B) (hfar : L.Pairwise EntK.Far) (hB : B ≤ w.heap.size) (hm : L.length ≤ 1000) :
    Calls Tryz.prog 13 #[.slice (some ⟨w.heap.size, 0, none⟩) L.length L.length] (w.alloc (.cells (L.map EntK.val).toArray t)) fun e w' => e = .returned (.bool true) ∧ Below B w w' :=
  (apartK_i64 _ _ B _ _ _ _ _ _ _ (partsK_of_list w B L t hok hfar) (by simp; omega) hm).mono fun _ _ ⟨he, hb⟩ => ⟨he, ((Below.refl B w).alloc hB _).trans hb⟩
end Go.Proofs.YtcmbdhmhkfhjfaaGreat.I
namespace Go.Proofs.YtcmbdhmhkfhjfaaGreat
open Go.RowKit
set_option linter.unusedVariables false

theorem spoil_kownI (v : Value) (base : Nat) (xs : List Int) (w : World) (h : KOwn .i64 3 w base v xs) :
    Calls Tryz.prog 34 #[v] w fun e w' => e = .returned (.tuple #[]) ∧ w.grownBy w' v.ownBlock ∧ w'.heap.size = w.heap.size := by
  rcases h with ⟨rfl, rfl⟩ | ⟨g, n, cap, r, rfl, h2, h3, h4, h5, h6, h7, h8⟩
  · exact (I.spoil_nil w).mono fun e w' ⟨he, hw⟩ => by subst hw; exact ⟨he, World.grownBy.refl _ _, rfl⟩
  · simp only [maxLen] at h6
    exact (I.spoilK_i64 g 0 n cap [] (xs ++ r) [] w (by rw [List.nil_append, List.append_nil]; exact h4) rfl (by rw [List.length_append]; exact h7) h5 h6).mono fun e w' ⟨he, _, hg, hz⟩ => ⟨he, hg, hz⟩
/-- A list of the call's own, as an entry. -/
theorem KOwn.entKI {w : World} {base B : Nat} {v : Value} {xs : List Int} (h : KOwn .i64 3 w base v xs) (hw : ∀ x ∈ xs, (Lit.int .i64 x).wf = true) (hm : xs.length ≤ 17592186044416) (hB : B ≤ base) :
    ∃ E : I.EntK, E.val = v ∧ E.Ok w B ∧ ∀ g, E.a = some g → base ≤ g ∧ v.ownBlock = some g := by
  rcases h with ⟨rfl, rfl⟩ | ⟨g, n, cap, r, rfl, h2, h3, h4, h5, h6, h7, h8⟩
  · exact ⟨⟨none, [], 0, 0, [], []⟩, rfl, ⟨⟨Nat.le_refl _, ⟨by show 0 ≤ _; omega, by show 0 ≤ _; omega⟩, rfl⟩, by simp, .inl ⟨rfl, rfl, rfl⟩⟩, fun g h => by cases h⟩
  · simp only [maxLen] at h6
    refine ⟨⟨some g, [], n, cap, xs ++ r, []⟩, rfl, ⟨⟨h5, ⟨h6, by show n ≤ _; omega⟩, by show (xs ++ r).length = cap; rw [List.length_append]; exact h7⟩, wf_append hw h8, .inr ⟨g, rfl, by omega, by rw [List.append_nil, List.nil_append]; exact h4⟩⟩, fun g' e => ?_⟩
    have e : some g = some g' := e
    injection e with e
    subst e
    exact ⟨h2, rfl⟩
/-- Only some blocks were written; others may be new. -/
structure Only (w w' : World) (S : Nat → Prop) : Prop where
  os : w'.os = w.os
  tape : w'.tape = w.tape
  output : w'.output = w.output
  size : w.heap.size ≤ w'.heap.size
  block : ∀ b, b < w.heap.size → ¬ S b → w'.heap[b]? = w.heap[b]?
theorem Only.refl (w : World) (S : Nat → Prop) : Only w w S := ⟨rfl, rfl, rfl, Nat.le_refl _, fun _ _ _ => rfl⟩
theorem Only.below {w w' w2 : World} {S : Nat → Prop} (h : Only w w' S) (hb : Below w'.heap.size w' w2) : Only w w2 S :=
  ⟨hb.os.trans h.os, hb.tape.trans h.tape, hb.output.trans h.output, Nat.le_trans h.size hb.size, fun b hlt hS => (hb.block b (Nat.lt_of_lt_of_le hlt h.size)).trans (h.block b hlt hS)⟩
theorem Only.grown {w w' w2 : World} {S T : Nat → Prop} {v : Option Nat} (h : Only w w' S) (hg : w'.grownBy w2 v) (hST : ∀ b, S b → T b) (hv : ∀ g, v = some g → T g) : Only w w2 T :=
  ⟨hg.os.trans h.os, hg.tape.trans h.tape, hg.output.trans h.output, Nat.le_trans h.size hg.size, fun b hlt hT => (hg.block b (Nat.lt_of_lt_of_le hlt h.size) (fun e => hT (hv b e.symm))).trans (h.block b hlt (fun hs => hT (hST b hs)))⟩
theorem Only.bel {w w' : World} {S : Nat → Prop} {B : Nat} (h : Only w w' S) (hB : B ≤ w.heap.size) (hS : ∀ b, S b → B ≤ b) : Below B w w' :=
  ⟨h.os, h.tape, h.output, h.size, fun b hb => h.block b (by omega) (fun hs => by have := hS b hs; omega)⟩
theorem Only.kown {k : IntKind} {e : TypeId} {w w' : World} {S : Nat → Prop} {base : Nat} {v : Value} {xs : List Int} (h : Only w w' S) (hk : KOwn k e w base v xs) (hS : ∀ g, v.ownBlock = some g → ¬ S g) : KOwn k e w' base v xs := by
  rcases hk with h0 | ⟨g, n, cap, r, rfl, h2, h3, h4, h5⟩
  · exact .inl h0
  · exact .inr ⟨g, n, cap, r, rfl, h2, h3, (h.block g (block_lt h4) (hS g rfl)).trans h4, h5⟩
end Go.Proofs.YtcmbdhmhkfhjfaaGreat
namespace Go.Proofs.YtcmbdhmhkfhjfaaGreat
open Go.RowKit
set_option linter.unusedVariables false
set_option maxRecDepth 100000

theorem PlOwn.only {w w' : World} {S : Nat → Prop} {base : Nat} {v : Value} {ps : List Pol} (hp : PlOwn w base v ps) (h : Only w w' S) (hS : ∀ b, S b → b < base) : PlOwn w' base v ps := by
  obtain ⟨L, h1, h2, h3, h4⟩ := hp
  refine ⟨L, h1, ⟨h2.1, ?_⟩, fun p hp => h.kown (h3 p hp) (fun g e hs => by have := (h3 p hp).block g e; have := hS g hs; omega), h4⟩
  rcases h2.2 with h0 | ⟨g, cap, cur, hv, hb, hg, r⟩
  · exact .inl h0
  · exact .inr ⟨g, cap, cur, hv, hb, (h.block g (block_lt hg) (fun hs => by have := hS g hs; omega)).trans hg, r⟩
/-- The blocks of the first Tags of a list of polls. -/
def BlkOf (L : List (Pol × Value)) (k b : Nat) : Prop := ∃ j, ∃ h : j < L.length, j < k ∧ L[j].2.ownBlock = some b
/-- A list of polls of which the first Tags were written over. -/
structure Worn (w5 wr : World) (base : Nat) (v : Value) (L : List (Pol × Value)) (k : Nat) : Prop where
  row : w5.ownsRow base 25 6 v L.length (flatV pcell L)
  each : ∀ p ∈ L, KOwn .i64 3 w5 base p.2 p.1.tg
  far : L.Pairwise (fun a b => FarV a.2 b.2)
  only : Only w5 wr (BlkOf L k)
theorem Worn.at_ {w5 wr : World} {base : Nat} {v : Value} {L : List (Pol × Value)} {k i : Nat} (h : Worn w5 wr base v L k) (hk : k ≤ i) (hi : i < L.length) :
    ∃ g c A m cc, v = .slice (some ⟨g, 0, none⟩) L.length c ∧ g < wr.heap.size ∧ (wr.cell? ⟨g, i * 6, none⟩ = some (.int .i64 L[i].1.un) ∧ wr.cell? ⟨g, i * 6 + 1, none⟩ = some (.int .i64 L[i].1.ki) ∧ wr.cell? ⟨g, i * 6 + 2, none⟩ = some (.int .i64 L[i].1.ad) ∧ wr.cell? ⟨g, i * 6 + 3, none⟩ = some (.int .i64 L[i].1.ct) ∧ wr.cell? ⟨g, i * 6 + 4, none⟩ = some (.int .i64 L[i].1.ev) ∧ wr.cell? ⟨g, i * 6 + 5, none⟩ = some (.slice A m cc)) ∧ L[i].2 = .slice A m cc ∧ KOwn .i64 3 wr base (.slice A m cc) L[i].1.tg := by
  have hkw := h.each _ (List.getElem_mem hi)
  have hkr : KOwn .i64 3 wr base L[i].2 L[i].1.tg := h.only.kown hkw (fun g e hs => by
    obtain ⟨j, hj, hjk, e2⟩ := hs
    have hf := List.pairwise_iff_getElem.1 h.far j i hj hi (by omega)
    rcases hf with hf | hf
    · rw [hf] at e2; cases e2
    · rw [e, e2] at hf; exact hf rfl)
  rcases h.row.2 with ⟨e0, h0⟩ | ⟨g, cap, cur, hv, hb, hg, h5, h6, h7, h8⟩
  · omega
  · have hlg := block_lt hg
    have hgS : ¬ BlkOf L k g := by
      rintro ⟨j, hj, hjk, e2⟩
      have hf := pol_far h.row (h.each _ (List.getElem_mem hj))
      rw [hv] at hf
      rcases hf with hf | hf
      · rw [hf] at e2; cases e2
      · rw [e2] at hf; exact hf rfl
    have hgr := (h.only.block g hlg hgS).trans hg
    obtain ⟨A, m, cc, hs⟩ := hkw.sl
    have hcell : ∀ j, j < 6 → wr.cell? ⟨g, i * 6 + j, none⟩ = (pcell L[i])[j]? := by
      intro j hj
      rw [cell_of_row wr g _ cur _ _ hgr, ← flatV_get pcell_len L i hi j hj, ← h8, List.getElem?_take_of_lt (by omega), Array.getElem?_toList]
    have c0 := hcell 0 (by omega)
    have c1 := hcell 1 (by omega)
    have c2 := hcell 2 (by omega)
    have c3 := hcell 3 (by omega)
    have c4 := hcell 4 (by omega)
    have c5 := hcell 5 (by omega)
    refine ⟨g, cap, A, m, cc, hv, by have := h.only.size; omega, ⟨?_, ?_, ?_, ?_, ?_, ?_⟩, hs, by rw [← hs]; exact hkr⟩
    · rw [Nat.add_zero] at c0; rw [c0]; simp [pcell]
    · rw [c1]; simp [pcell]
    · rw [c2]; simp [pcell]
    · rw [c3]; simp [pcell]
    · rw [c4]; simp [pcell]
    · rw [c5]; simp [pcell, hs]
theorem Worn.below {w5 wr w2 : World} {base : Nat} {v : Value} {L : List (Pol × Value)} {k : Nat} (h : Worn w5 wr base v L k) (hb : Below wr.heap.size wr w2) : Worn w5 w2 base v L k := ⟨h.row, h.each, h.far, h.only.below hb⟩
theorem Worn.next {w5 wr w2 : World} {base : Nat} {v : Value} {L : List (Pol × Value)} {k : Nat} (h : Worn w5 wr base v L k) (hk : k < L.length) {A : Option Addr} {m cc : Nat} (hs : L[k].2 = .slice A m cc) (hg : wr.grownBy w2 (Value.slice A m cc).ownBlock) : Worn w5 w2 base v L (k + 1) :=
  ⟨h.row, h.each, h.far, h.only.grown hg (fun b ⟨j, hj, hjk, e⟩ => ⟨j, hj, by omega, e⟩) (fun g e => ⟨k, hk, by omega, by rw [hs]; exact e⟩)⟩
theorem Worn.lowS {w5 wr : World} {base : Nat} {v : Value} {L : List (Pol × Value)} {k : Nat} (h : Worn w5 wr base v L k) : ∀ b, BlkOf L k b → base ≤ b ∧ b < w5.heap.size := by
  rintro b ⟨j, hj, _, e⟩
  exact (h.each _ (List.getElem_mem hj)).block b e
theorem plan_wf {l : List Tg} : ∀ p ∈ planL l, ∀ x ∈ p.tg, (Lit.int .i64 x).wf = true := by
  intro p hp x hx
  by_cases h : (chkAll l).1 = 0
  · have hi := plan_inv h
    obtain ⟨k, rfl, hk, _⟩ := (hi.each p hp).all x hx
    have := (tag_tab h).1
    exact wf_small (by omega) (by omega)
  · rw [plan_bad h] at hp; cases hp
theorem plan_tgs {l : List Tg} : (planL l).length ≤ 64 ∧ ∀ p ∈ planL l, p.tg.length ≤ 64 := by
  by_cases h : (chkAll l).1 = 0
  · have hi := plan_inv h
    have hl := (tag_tab h).1
    have hf := congrArg List.length hi.flat
    rw [List.length_map, ordT_len, List.length_flatMap] at hf
    have key : ∀ ps : List Pol, (∀ p ∈ ps, 1 ≤ p.tg.length) → ps.length ≤ (ps.map fun p => p.tg.length).sum ∧ ∀ p ∈ ps, p.tg.length ≤ (ps.map fun p => p.tg.length).sum := by
      intro ps
      induction ps with
      | nil => intro _; exact ⟨Nat.le_refl _, fun p hp => (by cases hp)⟩
      | cons q ps ih =>
        intro h1
        obtain ⟨i1, i2⟩ := ih (fun p hp => h1 p (List.mem_cons_of_mem _ hp))
        have := h1 q List.mem_cons_self
        simp only [List.map_cons, List.sum_cons, List.length_cons]
        refine ⟨by omega, fun p hp => ?_⟩
        rcases List.mem_cons.1 hp with rfl | hp
        · omega
        · have := i2 p hp; omega
    have hne : ∀ p ∈ planL l, 1 ≤ p.tg.length := fun p hp => by
      obtain ⟨k, e, _⟩ := (hi.each p hp).hd
      cases ht : p.tg with
      | nil => rw [ht] at e; cases e
      | cons a t => simp
    obtain ⟨k1, k2⟩ := key _ hne
    exact ⟨by omega, fun p hp => by have := k2 p hp; omega⟩
  · rw [plan_bad h]; exact ⟨Nat.zero_le _, fun p hp => (by cases hp)⟩

set_option maxHeartbeats 8000000 in
theorem walk_PlanPolls (A : Option Addr) (n c : Nat) (l : List Tg) (w : World) (hr : VRow w w.heap.size A (flatV tgC l)) (hn : l.length = n) (hnb : n ≤ 4611686018427387904) (hok : ∀ t ∈ l, Tg.Ok t) :
    Calls Tryz.prog 17 #[.slice A n c] w fun e w' => e = .returned (.bool true) ∧ Below w.heap.size w w' := by
  by_cases hbig : 4096 < n
  · have hb1 : (4096 : Int) < n := by omega
    go_enter Tryz.func17, Tryz.ntmps17
    go_wp2_with fail
    refine (works10_yes _).mono ?_
    rintro e w5 ⟨rfl, b5⟩
    go_wp2
    go_ret
    exact ⟨rfl, b5⟩
  have hb1 : ¬ (4096 : Int) < n := by omega
  have hn' := Lib.hid hn
  have HR := Lib.hid hr
  have HOK := Lib.hid hok
  obtain ⟨wx, hwx⟩ : ∃ wx, wx = w.alloc (.cells (flatV tgC (l ++ marksG)).toArray 51) := ⟨_, rfl⟩
  have hbx : wx.heap[w.heap.size]? = some (.cells (flatV tgC (l ++ marksG)).toArray 51 (0, 0)) := by rw [hwx]; exact heap_alloc_new w _
  have hzx : w.heap.size + 1 = wx.heap.size := by rw [hwx, World.size_alloc]
  have belx : Below w.heap.size w wx := by rw [hwx]; exact bel_alloc w _
  have VRX : VRow wx wx.heap.size (some ⟨w.heap.size, 0, none⟩) (flatV tgC l) := VRow.of_block hbx _ (by rw [flatV_append]; exact List.prefix_append _ _)
  have HL : Hid (Calls Tryz.prog 7 #[.slice A n c] w fun e w' => e = .returned (.slice (some ⟨w.heap.size, 0, none⟩) n (n + 5)) ∧ w' = wx) := Lib.hid (by rw [hwx]; exact lent_tg A n c l w hr hn (by omega))
  clear hwx hr hok hn
  obtain ⟨P, hP⟩ : ∃ P, planL l = P := ⟨_, rfl⟩
  have HPW := Lib.hid (plan_wf (l := l))
  obtain ⟨hP1, hP2⟩ := plan_tgs (l := l)
  have HP2 := Lib.hid hP2
  have HPL : Hid (∀ (x : Option Addr) (c9 : Nat) (W : World), VRow W W.heap.size x (flatV tgC l) → Calls Tryz.prog 22 #[.slice x n c9] W (GivesP W P (chkAll l).1)) := Lib.hid (fun x c9 W h => by rw [← hP]; exact Plan10_any x n c9 l W h hn'.out hnb HOK.out)
  have HRF : Hid (∀ W : World, VRow W W.heap.size A (flatV tgC l) → Calls Tryz.prog 39 #[.slice A n c] W (GivesP W P (chkAll l).1)) := Lib.hid (fun W h => by rw [← hP]; exact refPlan10_any A n c l W h hn'.out hnb HOK.out)
  rw [hP] at HPW HP2 hP1
  clear hP hP2
  generalize (chkAll l).1 = E at *
  have hEE : (E == E) = true := by simp
  go_enter Tryz.func17, Tryz.ntmps17
  go_wp2_with fail
  refine HL.out.mono ?_
  rintro e w' ⟨rfl, hw'⟩
  rw [hw']
  clear hw' HL
  go_wp2_with fail
  refine (HPL.out _ _ wx VRX).mono ?_
  rintro e w1 ⟨v1, rfl, own1, b1⟩
  go_wp2_with fail
  refine (HPL.out _ _ w1 ((VRX.below b1).more b1.size)).mono ?_
  rintro e w2 ⟨v2, rfl, own2, b2⟩
  have bel2 := belx.trans ((b1.trans (b2.mono b1.size)).mono belx.size)
  go_wp2_with fail
  refine (HRF.out w2 ((HR.out.below bel2).more bel2.size)).mono ?_
  rintro e w3 ⟨v3, rfl, own3, b3⟩
  have bel3 := bel2.trans (b3.mono bel2.size)
  have own1x := own1.below (b2.trans (b3.mono b2.size)) (Nat.le_refl _)
  have own2x := own2.below b3 (Nat.le_refl _)
  have pr1 := own1x.prow HPW.out
  have pr2 := own2x.prow HPW.out
  have pr3 := own3.prow HPW.out
  obtain ⟨A1, c1, rfl, _⟩ := own1.len
  obtain ⟨A2, c2, rfl, _⟩ := own2.len
  obtain ⟨A3, c3, rfl, _⟩ := own3.len
  obtain ⟨np, hnp⟩ : ∃ np, P.length = np := ⟨_, rfl⟩
  have hnp' := Lib.hid hnp
  have PR1 := Lib.hid pr1
  have PR2 := Lib.hid pr2
  have PR3 := Lib.hid pr3
  have OW1 := Lib.hid own1
  have OW2 := Lib.hid own2
  have OW3 := Lib.hid own3
  have B2 := Lib.hid b2
  have B3 := Lib.hid b3
  have hsz1 := b1.size
  have hsz2 := b2.size
  have hsz3 := b3.size
  have BX := Lib.hid (keepB (b1.trans ((b2.trans (b3.mono b2.size)).mono b1.size)) hbx)
  have BEL3 := Lib.hid bel3
  clear own1 own2 own3 own1x own2x pr1 pr2 pr3 b1 b2 b3 bel2 bel3 hbx
  rw [hnp] at PR1 PR2 PR3 OW1 OW2 OW3 hP1 ⊢
  clear hnp
  have htl : Hid (∀ p ∈ P, p.tg.length ≤ 1000000) := Lib.hid (fun p hp => by have := HP2.out p hp; omega)
  go_wp2_with fail
  refine (Same10_yes A1 A3 np c1 c3 P w3 PR1.out PR3.out hnp'.out (by omega) htl.out).mono ?_
  rintro e w4 ⟨rfl, b4⟩
  have BEL4 := Lib.hid (BEL3.out.trans (b4.mono BEL3.out.size))
  go_wp2_with fail
  refine (Same10_yes A2 A3 np c2 c3 P w4 (PR2.out.below b4) (PR3.out.below b4) hnp'.out (by omega) htl.out).mono ?_
  rintro e w5 ⟨rfl, b5⟩
  have b35 := b4.trans (b5.mono b4.size)
  have BEL5 := Lib.hid (BEL4.out.trans (b5.mono BEL4.out.size))
  have BX5 := Lib.hid (keepB b35 BX.out)
  have hsz5 := b35.size
  go_wp2_with fail
  refine (kept_tg A n c w.heap.size l w5 w5.heap.size ((HR.out.below BEL5.out).more BEL5.out.size) hn'.out (by omega) BX5.out).mono ?_
  rintro e w6' ⟨rfl, m6, hw6⟩
  obtain ⟨w6, hw6e⟩ : ∃ w6, w6 = w5.drewN m6 := ⟨_, rfl⟩
  have b36 : Below w3.heap.size w3 w6 := by rw [hw6e]; exact below_drewN b35 m6
  rw [hw6, ← hw6e]
  clear hw6 hw6e b35 b4 b5 w6'
  have hsz6 := b36.size
  have BEL6 := Lib.hid (BEL3.out.trans (b36.mono BEL3.out.size))
  have BX6 := Lib.hid (keepB b36 BX.out)
  have O2 := Lib.hid ((OW2.out.below B3.out (Nat.le_refl _)).below b36 (Nat.le_refl _))
  have O3 := Lib.hid (OW3.out.below b36 (Nat.le_refl _))
  obtain ⟨L, hL1, hL2, hL3, hL4⟩ := OW1.out
  have hLl : L.length = np := by rw [← hnp'.out, ← hL1, List.length_map]
  have HLI : Hid (∀ i (h : i < L.length) (h' : i < P.length), L[i].1 = P[i]) := Lib.hid (fun i h h' => by
    have : (L.map Prod.fst)[i]? = P[i]? := by rw [hL1]
    rw [List.getElem?_map, List.getElem?_eq_getElem h, List.getElem?_eq_getElem h'] at this
    exact Option.some.inj this)
  have b16 : Below w1.heap.size w1 w6 := B2.out.trans ((B3.out.mono hsz2).trans (b36.mono (by omega)))
  have WN : Hid (Worn w6 w6 wx.heap.size (.slice A1 np c1) L 0) := Lib.hid ⟨rowP_below hL2 b16 (Nat.le_refl _), fun p hp => (hL3 p hp).below b16 (Nat.le_refl _), hL4, Only.refl _ _⟩
  have LOW : Hid (∀ k b, BlkOf L k b → wx.heap.size ≤ b ∧ b < w1.heap.size) := Lib.hid (fun k b h => by
    obtain ⟨j, hj, _, e⟩ := h
    exact (hL3 _ (List.getElem_mem hj)).block b e)
  clear hL1 hL2 hL3 hL4 b16 b36
  go_wp2
  go_loopw [10] (fun i wr => ∃ k : Nat, k ≤ np ∧ i = .int .i64 k ∧ Hid (Worn w6 wr wx.heap.size (.slice A1 np c1) L k)) (fun i _ => np - (intOf i).toNat)
  case atStart => exact ⟨0, by omega, rfl, WN⟩
  case round =>
    clear WN
    obtain ⟨k, hk, rfl, hwn⟩ := hrel
    have hbx : Hid (Below wx.heap.size w6 wr) := Lib.hid (hwn.out.only.bel (by omega) (fun b h => (LOW.out k b h).1))
    by_cases hlt : k < np
    · have hkl : k < L.length := by omega
      obtain ⟨g, cg, At, mt, ct, e1, hg, hc, hs, hkt⟩ := hwn.out.at_ (Nat.le_refl k) hkl
      injection e1 with i1 i2 i3
      subst i1 i3
      have hlt' : (k : Int) < (np : Int) := by omega
      have hk0 : (0 : Int) ≤ k := by omega
      obtain ⟨c0, c1', c2', c3', c4', c5'⟩ := hc
      have HS := Lib.hid hs
      have HKT := Lib.hid hkt
      clear hs hkt i2
      go_wp2_with fail
      refine (spoil_kownI _ _ _ _ HKT.out).mono ?_
      rintro e w7 ⟨rfl, g7, hz7⟩
      have hwn7 := Lib.hid (hwn.out.next hkl HS.out g7)
      clear c0 c1' c2' c3' c4' c5' g7 hbx
      have hbx7 : Hid (Below wx.heap.size w6 w7) := Lib.hid (hwn7.out.only.bel (by omega) (fun b h => (LOW.out _ b h).1))
      have hwr : IntKind.i64.wrap ((k : Int) + 1) = (k : Int) + 1 := by rw [IntKind.wrap_i64]; omega
      by_cases hl2 : k + 1 < np
      · obtain ⟨g1, cg1, At1, mt1, ct1, e1, hg1, hc1, hs1, hkt1⟩ := hwn7.out.at_ (Nat.le_refl (k + 1)) (by omega)
        have O37 := O3.out.only hwn7.out.only (fun b h => by have := (LOW.out _ b h).2; omega)
        have hk1p : k + 1 < P.length := by have := hnp'.out; omega
        obtain ⟨g2, cg2, At2, ct2, e2, hg2, hc2, hr2⟩ := (O37.prow HPW.out).2 (k + 1) hk1p
        rw [HLI.out (k + 1) (by omega) hk1p] at hc1 hkt1
        obtain ⟨A9, c9, h9, hr1, _, _⟩ := hkt1.row (HPW.out _ (List.getElem_mem hk1p))
        injection h9 with j1 j2 j3
        subst j1 j2 j3
        have htk := htl.out _ (List.getElem_mem hk1p)
        generalize P[k + 1] = p at *
        injection e1 with x1 x2 x3
        injection e2 with y1 y2 y3
        subst y1 y3
        have hg1e : g = g1 := by injection x1 with x1; injection x1
        subst hg1e
        have n1 : (k : Int) + 1 < (np : Int) := by omega
        have n2 : (0 : Int) ≤ (k : Int) + 1 := by omega
        have n4 : ((k : Int) + 1).toNat = k + 1 := by omega
        have HR1 := Lib.hid hr1
        have HR2 := Lib.hid hr2
        have HSM : Hid (∀ W : World, Below w7.heap.size w7 W → Calls Tryz.prog 41 #[.agg #[.int .i64 p.un, .int .i64 p.ki, .int .i64 p.ad, .int .i64 p.ct, .int .i64 p.ev, .slice At1 p.tg.length ct1], .agg #[.int .i64 p.un, .int .i64 p.ki, .int .i64 p.ad, .int .i64 p.ct, .int .i64 p.ev, .slice At2 p.tg.length ct2]] W fun e w' => e = .returned (.bool true) ∧ Below W.heap.size W w') := Lib.hid fun W hW =>
          same10_yes p.un p.ki p.ad p.ct p.ev At1 At2 p.tg.length ct1 ct2 p.tg W ((HR1.out.below hW).more hW.size) ((HR2.out.below hW).more hW.size) rfl (by omega)
        have HK : Hid (∀ w9 : World, Below w7.heap.size w7 w9 → (Below w7.heap.size w7 w9 ∧ (w9.cell? ⟨g, (k + 1) * 6, none⟩ = some (.int .i64 p.un) ∧ w9.cell? ⟨g, (k + 1) * 6 + 1, none⟩ = some (.int .i64 p.ki) ∧ w9.cell? ⟨g, (k + 1) * 6 + 2, none⟩ = some (.int .i64 p.ad) ∧ w9.cell? ⟨g, (k + 1) * 6 + 3, none⟩ = some (.int .i64 p.ct) ∧ w9.cell? ⟨g, (k + 1) * 6 + 4, none⟩ = some (.int .i64 p.ev) ∧ w9.cell? ⟨g, (k + 1) * 6 + 5, none⟩ = some (.slice At1 p.tg.length ct1)) ∧ (w9.cell? ⟨g2, (k + 1) * 6, none⟩ = some (.int .i64 p.un) ∧ w9.cell? ⟨g2, (k + 1) * 6 + 1, none⟩ = some (.int .i64 p.ki) ∧ w9.cell? ⟨g2, (k + 1) * 6 + 2, none⟩ = some (.int .i64 p.ad) ∧ w9.cell? ⟨g2, (k + 1) * 6 + 3, none⟩ = some (.int .i64 p.ct) ∧ w9.cell? ⟨g2, (k + 1) * 6 + 4, none⟩ = some (.int .i64 p.ev) ∧ w9.cell? ⟨g2, (k + 1) * 6 + 5, none⟩ = some (.slice At2 p.tg.length ct2)))) := Lib.hid fun w9 hb => ⟨hb, ⟨cellB hb hg1 hc1.1, cellB hb hg1 hc1.2.1, cellB hb hg1 hc1.2.2.1, cellB hb hg1 hc1.2.2.2.1, cellB hb hg1 hc1.2.2.2.2.1, cellB hb hg1 hc1.2.2.2.2.2⟩, ⟨cellB hb hg2 hc2.1, cellB hb hg2 hc2.2.1, cellB hb hg2 hc2.2.2.1, cellB hb hg2 hc2.2.2.2.1, cellB hb hg2 hc2.2.2.2.2.1, cellB hb hg2 hc2.2.2.2.2.2⟩⟩
        have belh : ∀ w9 : World, (Below w7.heap.size w7 w9 ∧ (w9.cell? ⟨g, (k + 1) * 6, none⟩ = some (.int .i64 p.un) ∧ w9.cell? ⟨g, (k + 1) * 6 + 1, none⟩ = some (.int .i64 p.ki) ∧ w9.cell? ⟨g, (k + 1) * 6 + 2, none⟩ = some (.int .i64 p.ad) ∧ w9.cell? ⟨g, (k + 1) * 6 + 3, none⟩ = some (.int .i64 p.ct) ∧ w9.cell? ⟨g, (k + 1) * 6 + 4, none⟩ = some (.int .i64 p.ev) ∧ w9.cell? ⟨g, (k + 1) * 6 + 5, none⟩ = some (.slice At1 p.tg.length ct1)) ∧ (w9.cell? ⟨g2, (k + 1) * 6, none⟩ = some (.int .i64 p.un) ∧ w9.cell? ⟨g2, (k + 1) * 6 + 1, none⟩ = some (.int .i64 p.ki) ∧ w9.cell? ⟨g2, (k + 1) * 6 + 2, none⟩ = some (.int .i64 p.ad) ∧ w9.cell? ⟨g2, (k + 1) * 6 + 3, none⟩ = some (.int .i64 p.ct) ∧ w9.cell? ⟨g2, (k + 1) * 6 + 4, none⟩ = some (.int .i64 p.ev) ∧ w9.cell? ⟨g2, (k + 1) * 6 + 5, none⟩ = some (.slice At2 p.tg.length ct2))) → Below w7.heap.size w7 w9 := fun w9 h => h.1
        clear hc1 hc2 hr1 hr2 hkt1 hs1 x1 x2 x3 y2 O37
        go_wp2
        go_region_held3 (fun w9 => Below w7.heap.size w7 w9 ∧ (w9.cell? ⟨g, (k + 1) * 6, none⟩ = some (.int .i64 p.un) ∧ w9.cell? ⟨g, (k + 1) * 6 + 1, none⟩ = some (.int .i64 p.ki) ∧ w9.cell? ⟨g, (k + 1) * 6 + 2, none⟩ = some (.int .i64 p.ad) ∧ w9.cell? ⟨g, (k + 1) * 6 + 3, none⟩ = some (.int .i64 p.ct) ∧ w9.cell? ⟨g, (k + 1) * 6 + 4, none⟩ = some (.int .i64 p.ev) ∧ w9.cell? ⟨g, (k + 1) * 6 + 5, none⟩ = some (.slice At1 p.tg.length ct1)) ∧ (w9.cell? ⟨g2, (k + 1) * 6, none⟩ = some (.int .i64 p.un) ∧ w9.cell? ⟨g2, (k + 1) * 6 + 1, none⟩ = some (.int .i64 p.ki) ∧ w9.cell? ⟨g2, (k + 1) * 6 + 2, none⟩ = some (.int .i64 p.ad) ∧ w9.cell? ⟨g2, (k + 1) * 6 + 3, none⟩ = some (.int .i64 p.ct) ∧ w9.cell? ⟨g2, (k + 1) * 6 + 4, none⟩ = some (.int .i64 p.ev) ∧ w9.cell? ⟨g2, (k + 1) * 6 + 5, none⟩ = some (.slice At2 p.tg.length ct2)))
          ((refine HK.out _ ?_
            repeat' (first
              | with_reducible exact Below.refl _ _
              | with_reducible exact bel5
              | with_reducible exact belh _ (by assumption)
              | with_reducible apply below_drew
              | with_reducible apply below_drewN
              | fail)))
          (first
            | (go_at_call 41; have bh := belh _ (by assumption); refine (HSM.out _ bh).mono ?_; rintro e w8 ⟨rfl, b8⟩; have bel5 : Below w7.heap.size w7 w8 := Below.trans bh (b8.mono bh.size))
            | fail)
        have hwn8 := Lib.hid (hwn7.out.below bel5)
        clear HK belh bel5 b8
        go_wp2
        go_roundw
        case rel => exact ⟨k + 1, by omega, by go_num, hwn8⟩
        case measure => simp [intOf]; omega
      · have d1 : decide ((k : Int) + 1 < (np : Int)) = false := decide_eq_false (by omega)
        have d2 : decide (k + 1 < np) = false := decide_eq_false (by omega)
        go_wp2
        go_quiet (fail)
        have hwn8 := Lib.hid (hwn7.out.below (bel_drewN w7 nq))
        go_wp2
        go_roundw
        case rel => exact ⟨k + 1, by omega, by go_num, hwn8⟩
        case measure => simp [intOf]; omega
    · obtain rfl : k = np := by omega
      have O22 := (O2.out.only hwn.out.only (fun b h => (LOW.out _ b h).2)).prow HPW.out
      have O33 := (O3.out.only hwn.out.only (fun b h => by have := (LOW.out _ b h).2; omega)).prow HPW.out
      have BEL7 := Lib.hid (BEL6.out.trans (hbx.out.mono (by omega)))
      have BX7 := Lib.hid ((hbx.out.block w.heap.size (by omega)).trans BX6.out)
      clear hbx
      go_wp2_with fail
      refine (Same10_yes A2 A3 k c2 c3 P wr O22 O33 hnp'.out (by omega) htl.out).mono ?_
      rintro e w8 ⟨rfl, b8⟩
      have BEL8 := Lib.hid (BEL7.out.trans (b8.mono BEL7.out.size))
      have BX8 := Lib.hid (keepB b8 BX7.out)
      clear O22 O33 b8
      go_wp2_with fail
      refine (kept_tg A n c w.heap.size l w8 w8.heap.size ((HR.out.below BEL8.out).more BEL8.out.size) hn'.out (by omega) BX8.out).mono ?_
      rintro e w' ⟨rfl, m9, hw9⟩
      have BEL9 := Lib.hid (below_drewN BEL8.out m9)
      rw [hw9]
      clear hw9
      go_wp2_with fail
      refine (works10_yes _).mono ?_
      rintro e w5 ⟨rfl, b5⟩
      go_wp2
      go_ret
      exact ⟨rfl, BEL9.out.trans (b5.mono BEL9.out.size)⟩
end Go.Proofs.YtcmbdhmhkfhjfaaGreat
namespace Go.Proofs.YtcmbdhmhkfhjfaaGreat
open Go.RowKit
set_option linter.unusedVariables false

theorem Only.owns {k : IntKind} {e : TypeId} {w w' : World} {S : Nat → Prop} {base : Nat} {v : Value} {xs : List Int} (h : Only w w' S) (hk : Own k e w base v xs) (hS : ∀ b, S b → b < base) : Own k e w' base v xs := by
  refine ⟨hk.1, ?_⟩
  rcases hk.2 with h0 | ⟨g, cap, cur, hv, hb, hg, r⟩
  · exact .inl h0
  · exact .inr ⟨g, cap, cur, hv, hb, (h.block g (block_lt hg) (fun hs => by have := hS g hs; omega)).trans hg, r⟩
theorem Only.ownsL {e : TypeId} {w w' : World} {S : Nat → Prop} {base : Nat} {v : Value} {xs : List Bool} (h : Only w w' S) (hk : L.Own () e w base v xs) (hS : ∀ b, S b → b < base) : L.Own () e w' base v xs := by
  refine ⟨hk.1, ?_⟩
  rcases hk.2 with h0 | ⟨g, cap, cur, hv, hb, hg, r⟩
  · exact .inl h0
  · exact .inr ⟨g, cap, cur, hv, hb, (h.block g (block_lt hg) (fun hs => by have := hS g hs; omega)).trans hg, r⟩
theorem Only.wown {w w' : World} {S : Nat → Prop} {base : Nat} {v : Value} {fs : List (List Int)} (h : Only w w' S) (hk : WOwn w base v fs) (hS : ∀ b, S b → b < base) : WOwn w' base v fs := by
  obtain ⟨L, h1, h2, h3⟩ := hk
  refine ⟨L, h1, ⟨h2.1, ?_⟩, fun p hp => h.owns (h3 p hp) hS⟩
  rcases h2.2 with h0 | ⟨g, cap, cur, hv, hb, hg, r⟩
  · exact .inl h0
  · exact .inr ⟨g, cap, cur, hv, hb, (h.block g (block_lt hg) (fun hs => by have := hS g hs; omega)).trans hg, r⟩
set_option maxHeartbeats 4000000 in
set_option maxRecDepth 100000 in
theorem CopyReply_caps (r : Rep) (Bo Bs Bf : Option Addr) (mo ms mf eo es ef : Nat) (w : World) (hr : Repd w w.heap.size r Bo Bs Bf mo ms mf) (b1 : mo ≤ 70000) (b2 : ms ≤ 70000) (b3 : mf ≤ 1000) (b4 : ∀ i, i < mf → (nthF r.fs i).length ≤ 70368744175616) :
    Calls Tryz.prog 9 #[.agg #[.int .i64 r.x, .slice Bo mo eo, .slice Bs ms es, .slice Bf mf ef]] w
      fun e w' => ∃ Co Cs Cf ko ks kf, e = .returned (.agg #[.int .i64 r.x, .slice Co mo ko, .slice Cs ms ks, .slice Cf mf kf]) ∧ Repd w' w'.heap.size r Co Cs Cf mo ms mf ∧ Below w.heap.size w w' ∧ ms ≤ ks ∧ ks ≤ maxLen ∧ (∀ (w2 : World) (S : Nat → Prop), Only w' w2 S → (∀ b, S b → b < w.heap.size) → Repd w2 w2.heap.size r Co Cs Cf mo ms mf) := by
  have HR := Lib.hid hr
  have HWF := Lib.hid hr.fs.wf
  have HMF := Lib.hid hr.mf
  have HL4 := Lib.hid b4
  have t0 := TB.new w #[.int .i64 r.x, .slice Bo mo eo, .slice Bs ms es, .slice Bf mf ef] #[.int .i64 0, .slice none 0 0, .slice none 0 0, .slice none 0 0] 30
  clear hr b4
  go_enter Tryz.func9, Tryz.ntmps9
  go_wp2_with fail
  refine (L.copy_bool _ _ _ r.on _ ((HR.out.on.below t0.bel).more t0.bel.size) HR.out.mo (by omega)).mono ?_
  rintro e w1 ⟨vo, rfl, own1, b⟩
  obtain ⟨A1, c1, rfl, _, _, _⟩ := own1.row (fun _ _ => rfl)
  rw [HR.out.mo] at own1 ⊢
  have t1 := t0.below b
  have own1 := own1.mono (base' := w.heap.size + 2) (by have := t0.lt; omega)
  clear t0 b
  obtain ⟨d0, d1, d2, d3, d4⟩ := t1.r4
  have t2 := t1.set1 1 (.slice A1 mo c1)
  have own2 := Lib.hid (own1.set (g := w.heap.size) (by omega) 1 (.slice A1 mo c1))
  clear own1 t1
  go_wp2_with fail
  clear d0 d1 d2 d3 d4
  generalize w1.setCell ⟨w.heap.size, 1, none⟩ (.slice A1 mo c1) = w2 at *
  refine (W.copy_u16 _ _ _ r.set _ ((HR.out.set.below t2.bel).more t2.bel.size) HR.out.ms (by omega)).mono ?_
  rintro e w3 ⟨vs, rfl, own3, b⟩
  obtain ⟨A3, c3, rfl, _, hc3a, hc3b⟩ := own3.row HR.out.set.1
  rw [HR.out.ms] at hc3a
  have HC3 := Lib.hid (And.intro hc3a hc3b)
  clear hc3a hc3b
  rw [HR.out.ms] at own3 ⊢
  have t3 := t2.below b
  have own4 := own2.out.below b (Nat.le_refl _)
  have own3 := own3.mono (base' := w.heap.size + 2) (by have := t2.lt; omega)
  clear own2 t2 b
  obtain ⟨d0, d1, d2, d3, d4⟩ := t3.r4
  have t4 := t3.set1 2 (.slice A3 ms c3)
  have own5 := own3.set (g := w.heap.size) (by omega) 2 (.slice A3 ms c3)
  have own6 := own4.set (g := w.heap.size) (by omega) 2 (.slice A3 ms c3)
  clear own3 own4 t3
  go_wp2_with fail
  clear d0 d1 d2 d3 d4
  generalize w3.setCell ⟨w.heap.size, 2, none⟩ (.slice A3 ms c3) = w4 at *
  go_loopw [3, 4] (fun v i wr => ∃ k : Nat, k ≤ mf ∧ i = .int .i64 k ∧ WOwn wr (w.heap.size + 2) v (r.fs.take k) ∧ Hid (L.Own () 4 wr (w.heap.size + 2) (.slice A1 mo c1) r.on ∧ Own .u16 58 wr (w.heap.size + 2) (.slice A3 ms c3) r.set) ∧ TB w w.heap.size (.cells #[.int .i64 r.x, .slice A1 mo c1, .slice A3 ms c3, .slice Bf mf ef] 30 (0, 0)) (.cells #[.int .i64 0, .slice none 0 0, .slice none 0 0, .slice none 0 0] 30 (0, 0)) wr) (fun _ i _ => mf - (intOf i).toNat)
  case atStart => exact ⟨0, by omega, rfl, WOwn.nil _ _, Lib.hid ⟨own6, own5⟩, t4⟩
  case round =>
    clear own5 own6 t4
    obtain ⟨k, hk, rfl, fown, two, t5⟩ := hrel
    obtain ⟨d0, d1, d2, d3, d4⟩ := t5.r4
    have hlt5 := t5.lt
    by_cases hlt : k < mf
    · obtain ⟨b, o, Ai, ci, rfl, hb1, hc0, rw0, hle⟩ := HR.out.fs.at_ (i := k) (by rw [HMF.out]; exact hlt)
      have hc1 := (t5.bel.cell (p := ⟨b, o + k, none⟩) hb1).trans hc0
      have hlen := HL4.out k hlt
      have HT := Lib.hid (takeF_step r.fs k (by rw [HMF.out]; exact hlt))
      have HTL : Hid ((r.fs.take k).length = k) := Lib.hid (by rw [List.length_take, HMF.out]; omega)
      have hwx := Lib.hid rw0.1
      generalize nthF r.fs k = xs at *
      obtain ⟨z, hz⟩ : ∃ z, Hid (xs.length = z) := ⟨_, Lib.hid rfl⟩
      rw [hz.out] at hc1 hlen hle
      have R0 := Lib.hid ((rw0.below t5.bel).more t5.bel.size)
      have hklt : (k : Int) < (mf : Int) := by omega
      clear hc0 rw0
      go_wp2_with fail
      refine (W.copy_u16 _ _ _ xs _ R0.out hz.out (by omega)).mono ?_
      rintro e w5 ⟨vx, rfl, ownx, b5⟩
      obtain ⟨Ax, cx, rfl, _, _, _⟩ := ownx.row hwx.out
      rw [hz.out] at ownx ⊢
      have t6 := t5.below b5
      have fown6 := fown.below b5 (Nat.le_refl _)
      have o1 := two.out.1.below b5 (Nat.le_refl _)
      have o2 := two.out.2.below b5 (Nat.le_refl _)
      have ownx := ownx.mono (base' := w.heap.size + 2) (by omega)
      have hlt6 := t6.lt
      clear t5 b5 fown two d0 d1 d2 d3 d4 hc1
      have bA := bel_alloc w5 (.cells #[.slice Ax z cx] 27)
      have t7 := t6.below bA
      have fown7 := fown6.below bA (Nat.le_refl _)
      have ownx7 := ownx.below bA (Nat.le_refl _)
      have o17 := Lib.hid (o1.below bA (Nat.le_refl _))
      have o27 := Lib.hid (o2.below bA (Nat.le_refl _))
      obtain ⟨Av, cv, hv, _⟩ := fown7.len
      rw [HTL.out] at hv
      subst hv
      have HNEWS := Lib.hid (box_words w5 27 (.slice Ax z cx))
      clear t6 fown6 ownx o1 o2 bA
      go_wp2_with (at_builtin; refine wpList_append_words _ rfl (.tmp 20) (.tmp 27) 28 rfl (w.heap.size + 2) Tryz.underlying28 info_words (.slice Av k cv) (r.fs.take k) rfl fown7 ⟨w5.heap.size, 0, none⟩ 1 xs Ax z cx rfl ownx7 HNEWS.out (by rw [HTL.out]; omega) (by simp; omega) ?_; intro v8 w8 fown8 hg8)
      have t8 := t7.grown hg8 (fun g e => (fown7.block g e).1)
      have far1 : L.Own () 4 w8 (w.heap.size + 2) (.slice A1 mo c1) r.on := o17.out.kept hg8 (farB o17.out fown7)
      have far2 : Own .u16 58 w8 (w.heap.size + 2) (.slice A3 ms c3) r.set := o27.out.keep hg8 (farW o27.out fown7)
      have two8 := Lib.hid (And.intro far1 far2)
      rw [← HT.out] at fown8
      clear t7 fown7 ownx7 o17 o27 far1 far2 hg8
      go_wp2
      go_roundw
      case rel => exact ⟨k + 1, by omega, by go_num, fown8, two8, t8⟩
      case measure => simp [intOf]; omega
    · obtain rfl : k = mf := by omega
      have hx : r.fs.take k = r.fs := List.take_of_length_le (by rw [HMF.out]; omega)
      rw [hx] at fown
      clear hx
      obtain ⟨Av, cv, hv, _⟩ := fown.len
      rw [HMF.out] at hv
      subst hv
      have t6 := t5.set1 3 (.slice Av k cv)
      have fown6 := fown.set (g := w.heap.size) (by omega) 3 (.slice Av k cv)
      have o1 := two.out.1.set (g := w.heap.size) (by omega) 3 (.slice Av k cv)
      have o2 := two.out.2.set (g := w.heap.size) (by omega) 3 (.slice Av k cv)
      obtain ⟨k0, k1, k2, k3, k4⟩ := t5.c4
      have P5 := Lib.hid (t6.put4 (.int .i64 r.x) (.slice A1 mo c1) (.slice A3 ms c3) (.slice Av k cv))
      have F5 := Lib.hid (fown6.put4 (g := w.heap.size + 1) (by omega) (.int .i64 r.x) (.slice A1 mo c1) (.slice A3 ms c3) (.slice Av k cv))
      have F1 := Lib.hid (o1.put4 (g := w.heap.size + 1) (by omega) (.int .i64 r.x) (.slice A1 mo c1) (.slice A3 ms c3) (.slice Av k cv))
      have F2 := Lib.hid (o2.put4 (g := w.heap.size + 1) (by omega) (.int .i64 r.x) (.slice A1 mo c1) (.slice A3 ms c3) (.slice Av k cv))
      clear t5 t6 fown fown6 two o1 o2
      go_wp2

      (try simp only [Exit.inBlock, Exit.then])
      show bodyPost _ _ _ _ _ (put4 (wr.setCell ⟨w.heap.size, 3, none⟩ (.slice Av k cv)) (w.heap.size + 1) (.int .i64 r.x) (.slice A1 mo c1) (.slice A3 ms c3) (.slice Av k cv))
      generalize put4 (wr.setCell ⟨w.heap.size, 3, none⟩ (.slice Av k cv)) (w.heap.size + 1) (.int .i64 r.x) (.slice A1 mo c1) (.slice A3 ms c3) (.slice Av k cv) = w6 at *
      clear d0 d1 d2 d3 d4 k0 k1 k2 k3 k4
      have c0 := cell_of_row w6 (w.heap.size + 1) 0 _ _ _ P5.out.1
      have c1' := cell_of_row w6 (w.heap.size + 1) 1 _ _ _ P5.out.1
      have c2 := cell_of_row w6 (w.heap.size + 1) 2 _ _ _ P5.out.1
      have c3' := cell_of_row w6 (w.heap.size + 1) 3 _ _ _ P5.out.1
      refine bodyPost_ret (v := .agg #[.int .i64 r.x, .slice A1 mo c1, .slice A3 ms c3, .slice Av k cv]) (by simp [results, Tryz.results9, go_sem, *]) rfl ?_
      refine ⟨A1, A3, Av, c1, c3, cv, rfl, ⟨?_, ?_, F5.out.frow HWF.out, HR.out.mo, HR.out.ms, HMF.out⟩, P5.out.2, HC3.out.1, HC3.out.2, fun w2 S hO hS => ⟨?_, ?_, (hO.wown F5.out (fun b hb => by have := hS b hb; omega)).frow HWF.out, HR.out.mo, HR.out.ms, HMF.out⟩⟩
      · obtain ⟨A, n, c, e, hrow, _⟩ := F1.out.view3
        injection e with e1 e2 e3
        subst e1
        exact hrow
      · obtain ⟨A, n, c, e, hrow, _⟩ := F2.out.view3 HR.out.set.1
        injection e with e1 e2 e3
        subst e1
        exact hrow
      · obtain ⟨A, n, c, e, hrow, _⟩ := (hO.ownsL F1.out (fun b hb => by have := hS b hb; omega)).view3
        injection e with e1 e2 e3
        subst e1
        exact hrow
      · obtain ⟨A, n, c, e, hrow, _⟩ := (hO.owns F2.out (fun b hb => by have := hS b hb; omega)).view3 HR.out.set.1
        injection e with e1 e2 e3
        subst e1
        exact hrow
end Go.Proofs.YtcmbdhmhkfhjfaaGreat
namespace Go.Proofs.YtcmbdhmhkfhjfaaGreat.I
open Go.RowKit
set_option linter.unusedVariables false

set_option maxHeartbeats 1000000 in
theorem apartX_i64 (gl m B : Nat) (A : Nat → Option Addr) (n c : Nat → Nat) (p l0 r : Nat → List Int) (w : World) (hP : PartsK w B gl m A n c p l0 r) (hB : B ≤ w.heap.size) (hm : m ≤ 1000) (S : Nat → Prop) (hS : ∀ k, k < m → ∀ g o, A k = some ⟨g, o, none⟩ → S g) :
    Calls Tryz.prog 13 #[.slice (some ⟨gl, 0, none⟩) m m] w fun e w' => e = .returned (.bool true) ∧ Only w w' S := by
  go_enter Tryz.func13, Tryz.ntmps13
  go_wp2
  go_loopw [3, 4, 5] (fun i _ _ wr => ∃ (j : Nat) (l : Nat → List Int), j ≤ m ∧ i = .int .i64 j ∧ PartsK wr B gl m A n c p l r ∧ Only w wr S) (fun i _ _ _ => m - (intOf i).toNat)
  case atStart => exact ⟨0, l0, by omega, rfl, hP, Only.refl _ _⟩
  case round =>
    obtain ⟨i, l1, hi, rfl, hP1, hb1⟩ := hrel
    by_cases hlt : i < m
    · go_wp2
      obtain ⟨wo, hwo⟩ : ∃ wo : World, wo = wr := ⟨_, rfl⟩
      subst hwo
      go_loopw [4, 5] (fun k _ wr => ∃ (j : Nat) (l : Nat → List Int), j ≤ m ∧ k = .int .i64 j ∧ PartsK wr B gl m A n c p l r ∧ Only w wr S) (fun k _ _ => m - (intOf k).toNat)
      case atStart => exact ⟨0, l1, by omega, rfl, hP1, hb1⟩
      case round =>
        obtain ⟨k, l, hk, rfl, hP2, hb2⟩ := hrel
        by_cases hlk : k < m
        · by_cases hik : i = k
          · subst hik
            go_wp2
            go_roundw
            case rel => exact ⟨i + 1, l, by omega, by go_num, hP2, hb2⟩
            case measure => simp [intOf]; omega
          · have ht : ((i : Int) == (k : Int)) = false := by simp; omega
            have hck := hP2.at_ k hlk
            have hci := hP2.at_ i hlt
            obtain ⟨hrow, hrl⟩ := hP2.row hlk
            have hrl' := Lib.hid hrl
            clear hrl
            have hsk := hP2.size k hlk
            go_wp2_with fail
            refine (copy_i64 _ _ _ _ _ hrow hrl'.out (by omega)).mono ?_
            rintro e w1 ⟨v1, rfl, own1, bel1⟩
            have hP3 := hP2.below bel1
            have hb3 : Only w w1 S := hb2.below bel1
            have hck1 := hP3.at_ k hlk
            have hci1 := hP3.at_ i hlt
            have hwf := hrow.1
            rcases hP3.lies i hlt with ⟨hA, hN, hC⟩ | ⟨g, hA, hBg, hgl, hg⟩
            · rw [hA, hN, hC] at hci1
              clear hA hN hC hck hci hrow
              obtain ⟨A1, c1, rfl, row1, _, _⟩ := own1.row hwf
              rw [hrl'.out]
              obtain ⟨hrow3, hrl3⟩ := hP3.row hlk
              have hrl3' := Lib.hid hrl3
              clear hrl3
              go_wp2_with fail
              refine (spoil_nil _).mono ?_
              rintro e w' ⟨rfl, rfl⟩
              go_wp2_with fail
              refine (same_yes_i64 _ _ _ _ _ _ _ _ _ row1 hrow3 hrl3'.out (by omega)).mono ?_
              rintro e w' ⟨rfl, mq, rfl⟩
              have hP4 := hP3.below (w' := w1.drewN mq) ⟨rfl, rfl, rfl, Nat.le_refl _, fun _ _ => rfl⟩
              have hb4 : Only w (w1.drewN mq) S := hb3.below ⟨rfl, rfl, rfl, Nat.le_refl _, fun _ _ => rfl⟩
              go_wp2
              go_roundw
              case rel => exact ⟨k + 1, l, by omega, by go_num, hP4, hb4⟩
              case measure => simp [intOf]; omega
            · have hsi := hP3.size i hlt
              have hglt : g < wr.heap.size := by
                rcases hP2.lies i hlt with ⟨h0, _⟩ | ⟨g', hA', _, _, hg'⟩
                · rw [hA] at h0; cases h0
                · rw [hA] at hA'
                  injection hA' with hA'
                  injection hA' with hA'
                  rw [hA']
                  exact block_lt hg'
              rw [hA] at hci1
              clear hck hci hrow
              have hsi3 := Lib.hid hsi.2.2
              go_wp2_with fail
              refine (spoilK_i64 g _ _ _ (p i) (l i) (r i) _ hg rfl hsi3.out hsi.1 hsi.2.1.1).mono ?_
              rintro e w2 ⟨rfl, hg2, hgr2, hsz2⟩
              have hP4 := hP3.spoil hlt hA hg2 hgr2
              have hb4 : Only w w2 S := hb3.grown hgr2 (fun _ h => h) (fun q e => by injection e with e; subst e; exact hS i hlt _ _ hA)
              have own2 := own1.kept hgr2 (by
                cases hv : v1.ownBlock with
                | none => exact .inl rfl
                | some q =>
                  refine .inr fun e => ?_
                  have h1 := (own1.block q hv).1
                  injection e with e
                  omega)
              have hck2 := hP4.at_ k hlk
              obtain ⟨hrow4, hrl4⟩ := hP4.row hlk
              simp only [if_neg (show ¬ k = i by omega)] at hrow4 hrl4
              have hrl4' := Lib.hid hrl4
              obtain ⟨A1, c1, rfl, row1, _, _⟩ := own2.row hwf
              rw [hrl'.out]
              clear hsz2 hrl4 hck1 hci1 hgr2 hg2 hg hA
              go_wp2_with fail
              refine (same_yes_i64 _ _ _ _ _ _ _ _ _ row1 hrow4 hrl4'.out (by omega)).mono ?_
              rintro e w' ⟨rfl, mq, rfl⟩
              have hP5 := hP4.below (w' := w2.drewN mq) ⟨rfl, rfl, rfl, Nat.le_refl _, fun _ _ => rfl⟩
              have hb5 : Only w (w2.drewN mq) S := hb4.below ⟨rfl, rfl, rfl, Nat.le_refl _, fun _ _ => rfl⟩
              go_wp2
              go_roundw
              case rel => exact ⟨k + 1, _, by omega, by go_num, hP5, hb5⟩
              case measure => simp [intOf]; omega
        · go_wp2
          go_roundw
          case rel => exact ⟨i + 1, l, by omega, by go_num, hP2, hb2⟩
          case measure => simp [intOf]; omega
    · go_wp2
      go_ret
      exact ⟨rfl, hb1⟩

theorem apartX_list_i64 (w : World) (B : Nat) (L : List EntK) (t : TypeId) (hok : ∀ e ∈ L, e.Ok w B) (hfar : L.Pairwise EntK.Far) (hB : B ≤ w.heap.size) (hm : L.length ≤ 1000) :
    Calls Tryz.prog 13 #[.slice (some ⟨w.heap.size, 0, none⟩) L.length L.length] (w.alloc (.cells (L.map EntK.val).toArray t)) fun e w' => e = .returned (.bool true) ∧ Only w w' (fun b => ∃ e ∈ L, e.a = some b) := by
  refine (apartX_i64 _ _ B _ _ _ _ _ _ _ (partsK_of_list w B L t hok hfar) (by simp; omega) hm (fun b => ∃ e ∈ L, e.a = some b) (fun k hk g o h => ?_)).mono fun _ _ ⟨he, hb⟩ => ⟨he, ?_⟩
  · simp only [List.getD_eq_getElem?_getD, List.getElem?_eq_getElem hk, Option.getD_some] at h
    exact ⟨_, List.getElem_mem hk, EntK.adr_some h⟩
  · have h0 : Only w (w.alloc (.cells (L.map EntK.val).toArray t)) (fun b => ∃ e ∈ L, e.a = some b) := (Only.refl w _).below (bel_alloc w _)
    exact ⟨hb.os.trans h0.os, hb.tape.trans h0.tape, hb.output.trans h0.output, Nat.le_trans h0.size hb.size, fun b hlt hS => (hb.block b (by simp; omega) hS).trans (h0.block b hlt hS)⟩
end Go.Proofs.YtcmbdhmhkfhjfaaGreat.I
namespace Go.Proofs.YtcmbdhmhkfhjfaaGreat
open Go.RowKit
set_option linter.unusedVariables false
set_option maxRecDepth 100000

/-- Three lists of numbers of the call's own share no memory. -/
theorem apart3I (w : World) (B b1 b2 b3 : Nat) (v1 v2 v3 : Value) (l1 l2 l3 : List Int) (t : TypeId) (h1 : KOwn .i64 3 w b1 v1 l1) (h2 : KOwn .i64 3 w b2 v2 l2) (h3 : KOwn .i64 3 w b3 v3 l3) (f1 : ∀ x ∈ l1, (Lit.int .i64 x).wf = true) (f2 : ∀ x ∈ l2, (Lit.int .i64 x).wf = true) (f3 : ∀ x ∈ l3, (Lit.int .i64 x).wf = true) (q1 : l1.length ≤ 17592186044416) (q2 : l2.length ≤ 17592186044416) (q3 : l3.length ≤ 17592186044416)
    (hB1 : B ≤ b1) (hB2 : B ≤ b2) (hB3 : B ≤ b3) (hlt : ∀ g, v3.ownBlock = some g → g < b1) (hlt2 : ∀ g, v1.ownBlock = some g → g < b2) (h12 : b1 ≤ b2) (hB : B ≤ w.heap.size) :
    Calls Tryz.prog 13 #[.slice (some ⟨w.heap.size, 0, none⟩) 3 3] (w.alloc (.cells #[v1, v2, v3] t)) fun e w' => e = .returned (.bool true) ∧ Only w w' (fun b => v1.ownBlock = some b ∨ v2.ownBlock = some b ∨ v3.ownBlock = some b) := by
  obtain ⟨E1, e1, o1, a1⟩ := h1.entKI (B := B) f1 q1 hB1
  obtain ⟨E2, e2, o2, a2⟩ := h2.entKI (B := B) f2 q2 hB2
  obtain ⟨E3, e3, o3, a3⟩ := h3.entKI (B := B) f3 q3 hB3
  have hfar : [E1, E2, E3].Pairwise I.EntK.Far := by
    refine List.pairwise_cons.2 ⟨fun e he => ?_, List.pairwise_cons.2 ⟨fun e he => ?_, List.pairwise_singleton _ _⟩⟩
    · simp only [List.mem_cons, List.not_mem_nil, or_false] at he
      rcases he with rfl | rfl
      · intro g h4 h5
        have := hlt2 g (a1 g h4).2
        have := (a2 g h5).1
        omega
      · intro g h4 h5
        have := hlt g (a3 g h5).2
        have := (a1 g h4).1
        omega
    · simp only [List.mem_singleton] at he
      subst he
      intro g h4 h5
      have := hlt g (a3 g h5).2
      have := (a2 g h4).1
      omega
  have hok : ∀ e ∈ [E1, E2, E3], e.Ok w B := by
    intro e he
    simp only [List.mem_cons, List.not_mem_nil, or_false] at he
    rcases he with rfl | rfl | rfl
    · exact o1
    · exact o2
    · exact o3
  have h := I.apartX_list_i64 w B _ t hok hfar hB (by simp)
  simp only [List.map_cons, List.map_nil, e1, e2, e3] at h
  refine h.mono fun e w' ⟨he, ho⟩ => ⟨he, ho.os, ho.tape, ho.output, ho.size, fun b hb hn => ho.block b hb fun ⟨E, hE, hEb⟩ => hn ?_⟩
  simp only [List.mem_cons, List.not_mem_nil, or_false] at hE
  rcases hE with rfl | rfl | rfl
  · exact .inl (a1 b hEb).2
  · exact .inr (.inl (a2 b hEb).2)
  · exact .inr (.inr (a3 b hEb).2)
theorem longR_no {mo ms mf : Nat} {fs : List (List Int)} (h : longR mo ms mf fs = false) : mo ≤ 70000 ∧ ms ≤ 70000 ∧ mf ≤ 1000 := by
  have := of_decide_eq_false h
  omega
theorem valsL_len (l : List Tg) (p : Pol) (r : Rep) : (valsL l p r).length ≤ p.tg.length := by
  unfold valsL
  split
  · rw [valsM_len]; exact Nat.le_refl _
  · exact Nat.zero_le _
theorem ValH.set {w w' : World} {o1 o2 : Obj} (h : ValH w w' o1 o2) {g : Nat} (hg : w.heap.size + 2 ≤ g) (i : Nat) (v : Value) : ValH w (w'.setCell ⟨g, i, none⟩ v) o1 o2 := by
  refine ⟨(Below.heap_setCell _ _ _ _ (by intro e; simp only at e; omega)).trans h.b1, (Below.heap_setCell _ _ _ _ (by intro e; simp only at e; omega)).trans h.b2, by have := h.sz; simpa [World.setCell] using this, below_setCell h.bel (by omega) i v⟩
theorem KOwn.lentI {w : World} {g n : Nat} {tg : List Int} (hx : w.heap[g]? = some (.cells (blk .i64 (tg ++ I.marks5)) 3 (0, 0))) (hn : tg.length = n) (hb : n ≤ 4096) : KOwn .i64 3 w g (.slice (some ⟨g, 0, none⟩) n (n + 5)) tg :=
  .inr ⟨g, n, n + 5, I.marks5, rfl, Nat.le_refl _, hn, hx, by omega, by simp only [maxLen]; omega, by rw [hn]; rfl, by decide⟩
set_option maxHeartbeats 8000000 in
theorem walk_PlanValues (A : Option Addr) (n c : Nat) (l : List Tg) (pu pk pa pc pe : Int) (Pt : Option Addr) (pn pm : Nat) (tg : List Int) (r : Rep) (Bo Bs Bf : Option Addr) (mo ms mf eo es ef : Nat) (w : World) (hr : VRow w w.heap.size A (flatV tgC l)) (hn : l.length = n) (hnb : n ≤ 4611686018427387904) (hok : ∀ t ∈ l, Tg.Ok t)
    (hrow : Row .i64 w w.heap.size Pt tg) (hpn : tg.length = pn) (hrep : Repd w w.heap.size r Bo Bs Bf mo ms mf) (hx : (Lit.int .i64 r.x).wf = true) (hfs : ∀ i, i < mf → (nthF r.fs i).length ≤ 70368744175616) (hms : ms ≤ es) (hes : es ≤ 9223372036854775807) :
    Calls Tryz.prog 3 #[.slice A n c, .agg #[.int .i64 pu, .int .i64 pk, .int .i64 pa, .int .i64 pc, .int .i64 pe, .slice Pt pn pm], .agg #[.int .i64 r.x, .slice Bo mo eo, .slice Bs ms es, .slice Bf mf ef]] w fun e w' => e = .returned (.bool true) ∧ Below w.heap.size w w' := by
  have v0 := ValH.new w (.cells #[.int .i64 pu, .int .i64 pk, .int .i64 pa, .int .i64 pc, .int .i64 pe, .slice Pt pn pm] 25) (.cells #[.int .i64 r.x, .slice Bo mo eo, .slice Bs ms es, .slice Bf mf ef] 30)
  have HR := Lib.hid hr
  have HN := Lib.hid hn
  have HOK := Lib.hid hok
  have HRW := Lib.hid hrow
  have HPN := Lib.hid hpn
  have HRP := Lib.hid hrep
  have HXW := Lib.hid hx
  have HFS := Lib.hid hfs
  obtain ⟨x, hxx⟩ : ∃ x, r.x = x := ⟨_, rfl⟩
  have HX := Lib.hid hxx
  rw [hxx] at v0 ⊢
  obtain ⟨lv, hlv⟩ : ∃ lv, longR mo ms mf r.fs = lv := ⟨_, rfl⟩
  have HLV := Lib.hid hlv
  have HLR : Hid (∀ W : World, Below w.heap.size w W → Calls Tryz.prog 5 #[.agg #[.int .i64 x, .slice Bo mo eo, .slice Bs ms es, .slice Bf mf ef]] W fun e w' => e = .returned (.bool lv) ∧ Below W.heap.size W w') := Lib.hid fun W hW => by
    have h := LongReply_any r Bo Bs Bf mo ms mf eo es ef W ((hrep.below hW).more hW.size)
    rw [hxx, hlv] at h
    exact h
  clear hr hn hok hrow hpn hrep hx hfs hxx hlv
  obtain ⟨p0, p1, p2, p3, p4, p5⟩ := of6 v0.b1
  have r0 := cell_of_row _ _ 0 _ _ _ v0.b2
  have r1 := cell_of_row _ _ 1 _ _ _ v0.b2
  have r2 := cell_of_row _ _ 2 _ _ _ v0.b2
  have r3 := cell_of_row _ _ 3 _ _ _ v0.b2
  have V0 := Lib.hid v0
  by_cases hbig : 4096 < n
  · have hb1 : (4096 : Int) < n := by omega
    have HB := Lib.hid v0.bel
    clear v0
    go_enter Tryz.func3, Tryz.ntmps3
    go_wp2_with fail
    refine (works10_yes _).mono ?_
    rintro e w5 ⟨rfl, b5⟩
    have bel5 := HB.out.trans (b5.mono HB.out.size)
    go_wp2
    go_ret
    exact ⟨rfl, bel5⟩
  have hb1 : ¬ (4096 : Int) < n := by omega
  by_cases hbig2 : 4096 < pn
  · have hb2 : (4096 : Int) < pn := by omega
    have HB := Lib.hid v0.bel
    clear v0
    go_enter Tryz.func3, Tryz.ntmps3
    go_wp2_with fail
    refine (works10_yes _).mono ?_
    rintro e w5 ⟨rfl, b5⟩
    have bel5 := HB.out.trans (b5.mono HB.out.size)
    go_wp2
    go_ret
    exact ⟨rfl, bel5⟩
  have hb2 : ¬ (4096 : Int) < pn := by omega
  cases lv
  case true =>
    have HB := Lib.hid v0.bel
    clear v0
    go_enter Tryz.func3, Tryz.ntmps3
    go_wp2_with fail
    refine (HLR.out _ HB.out).mono ?_
    rintro e w5 ⟨rfl, b5⟩
    have bel5 := HB.out.trans (b5.mono HB.out.size)
    go_wp2_with fail
    refine (works10_yes _).mono ?_
    rintro e w6 ⟨rfl, b6⟩
    have bel6 := bel5.trans (b6.mono bel5.size)
    go_wp2
    go_ret
    exact ⟨rfl, bel6⟩
  obtain ⟨lo1, lo2, lo3⟩ := longR_no HLV.out
  clear v0
  go_enter Tryz.func3, Tryz.ntmps3
  go_wp2_with fail
  refine (HLR.out _ V0.out.bel).mono ?_
  rintro e w1 ⟨rfl, b1⟩
  have v1 := V0.out.below b1
  clear V0 HLR b1 p0 p1 p2 p3 p4 p5 r0 r1 r2 r3
  -- the tags, lent
  go_wp2_with fail
  refine (lent_tg A n c l w1 ((HR.out.below v1.bel).more v1.bel.size) HN.out (by omega)).mono ?_
  rintro e w2 ⟨rfl, hw2⟩
  have hLb : w2.heap[w1.heap.size]? = some (.cells (flatV tgC (l ++ marksG)).toArray 51 (0, 0)) := by rw [hw2]; exact heap_alloc_new _ _
  have v2 : ValH w w2 (.cells #[.int .i64 pu, .int .i64 pk, .int .i64 pa, .int .i64 pc, .int .i64 pe, .slice Pt pn pm] 25) (.cells #[.int .i64 x, .slice Bo mo eo, .slice Bs ms es, .slice Bf mf ef] 30) := by rw [hw2]; exact v1.alloc _
  clear hw2
  have hLz := Lib.hid (block_lt hLb)
  have hsz2 := v2.sz
  obtain ⟨p0, p1, p2, p3, p4, p5⟩ := of6 v2.b1
  -- the poll, copied
  have V3 := v2.alloc (.cells #[.int .i64 pu, .int .i64 pk, .int .i64 pa, .int .i64 pc, .int .i64 pe, .slice Pt pn pm] 25)
  have hY := heap_alloc_new w2 (.cells #[.int .i64 pu, .int .i64 pk, .int .i64 pa, .int .i64 pc, .int .i64 pe, .slice Pt pn pm] 25)
  have hLc := (heap_alloc_old w2 (.cells #[.int .i64 pu, .int .i64 pk, .int .i64 pa, .int .i64 pc, .int .i64 pe, .slice Pt pn pm] 25) (block_lt hLb)).trans hLb
  have hz3 : (w2.alloc (.cells #[.int .i64 pu, .int .i64 pk, .int .i64 pa, .int .i64 pc, .int .i64 pe, .slice Pt pn pm] 25)).heap.size = w2.heap.size + 1 := by simp
  have hz3' := Lib.hid hz3
  clear hz3
  obtain ⟨p0', p1', p2', p3', p4', p5'⟩ := of6 V3.b1
  clear v1 v2
  go_wp2_with fail
  generalize hw3 : w2.alloc (.cells #[.int .i64 pu, .int .i64 pk, .int .i64 pa, .int .i64 pc, .int .i64 pe, .slice Pt pn pm] 25) = w3 at *
  refine (I.lent_i64 Pt pn pm tg w3 ((HRW.out.below V3.bel).more V3.bel.size) HPN.out (by omega)).mono ?_
  rintro e w4 ⟨rfl, hw4⟩
  have hT : w4.heap[w3.heap.size]? = some (.cells (blk .i64 (tg ++ I.marks5)) 3 (0, 0)) := by rw [hw4]; exact heap_alloc_new _ _
  have b34 : Below w3.heap.size w3 w4 := by rw [hw4]; exact bel_alloc _ _
  clear hw4 p0 p1 p2 p3 p4 p5 p0' p1' p2' p3' p4' p5' hw3
  have V4 := V3.below b34
  have hY4 := keepB b34 hY
  have hL4 := keepB b34 hLc
  have hY5 : (w4.setCell ⟨w2.heap.size, 5, none⟩ (.slice (some ⟨w3.heap.size, 0, none⟩) pn (pn + 5))).heap[w2.heap.size]? = some (.cells #[.int .i64 pu, .int .i64 pk, .int .i64 pa, .int .i64 pc, .int .i64 pe, .slice (some ⟨w3.heap.size, 0, none⟩) pn (pn + 5)] 25 (0, 0)) := by
    simp [World.setCell, Array.getElem?_modify, hY4]
  have hsz3 : w.heap.size + 2 ≤ w2.heap.size := hsz2
  have V5 := V4.set hsz3 5 (.slice (some ⟨w3.heap.size, 0, none⟩) pn (pn + 5))
  have hL5 := (Below.heap_setCell w4 ⟨w2.heap.size, 5, none⟩ (.slice (some ⟨w3.heap.size, 0, none⟩) pn (pn + 5)) w1.heap.size (by have := block_lt hLb; intro e; simp only at e; omega)).trans hL4
  have hT5 := (Below.heap_setCell w4 ⟨w2.heap.size, 5, none⟩ (.slice (some ⟨w3.heap.size, 0, none⟩) pn (pn + 5)) w3.heap.size (by have := hz3'.out; intro e; simp only at e; omega)).trans hT
  have hf4 := block_frozen w4 w2.heap.size 5 _ _ hY4
  obtain ⟨y0, y1, y2, y3, y4, y5⟩ := of6 hY4
  have q0 := cell_of_row _ _ 0 _ _ _ V5.b2
  have q1 := cell_of_row _ _ 1 _ _ _ V5.b2
  have q2 := cell_of_row _ _ 2 _ _ _ V5.b2
  have q3 := cell_of_row _ _ 3 _ _ _ V5.b2
  have hc4 := cell_of_row _ _ 5 _ _ _ V4.b1
  clear hLb hY hLc hT hY4 hL4 V3 V4 hc4 b34
  go_wp2_with fail
  generalize hw5 : w4.setCell ⟨w2.heap.size, 5, none⟩ (.slice (some ⟨w3.heap.size, 0, none⟩) pn (pn + 5)) = w5 at *
  have HCR : Calls Tryz.prog 9 #[.agg #[.int .i64 x, .slice Bo mo eo, .slice Bs ms es, .slice Bf mf ef]] w5 fun e w' => ∃ Co Cs Cf ko ks kf, e = .returned (.agg #[.int .i64 x, .slice Co mo ko, .slice Cs ms ks, .slice Cf mf kf]) ∧ Repd w' w'.heap.size r Co Cs Cf mo ms mf ∧ Below w5.heap.size w5 w' ∧ ms ≤ ks ∧ ks ≤ maxLen ∧ (∀ (w2 : World) (S : Nat → Prop), Only w' w2 S → (∀ b, S b → b < w5.heap.size) → Repd w2 w2.heap.size r Co Cs Cf mo ms mf) := by
    have h := CopyReply_caps r Bo Bs Bf mo ms mf eo es ef w5 ((HRP.out.below V5.bel).more V5.bel.size) lo1 lo2 lo3 HFS.out
    rw [HX.out] at h
    exact h
  refine HCR.mono ?_
  rintro e w6 ⟨Co, Cs, Cf, ko, ks, kf, rfl, rep6, b6, hks1, hks2, hstay⟩
  have HST := Lib.hid hstay
  clear hstay
  have hz56 := b6.size
  have hg35 := block_lt hT5
  simp only [maxLen] at hks2
  have hZ := heap_alloc_new w6 (.cells #[.int .i64 x, .slice Co mo ko, .slice Cs ms ks, .slice Cf mf kf] 30)
  have b7 := b6.alloc b6.size (.cells #[.int .i64 x, .slice Co mo ko, .slice Cs ms ks, .slice Cf mf kf] 30)
  have V7 := V5.below b7
  have REP7 := Lib.hid ((rep6.below (bel_alloc w6 (.cells #[.int .i64 x, .slice Co mo ko, .slice Cs ms ks, .slice Cf mf kf] 30))).more (bel_alloc w6 (.cells #[.int .i64 x, .slice Co mo ko, .slice Cs ms ks, .slice Cf mf kf] 30)).size)
  have hY7 := keepB b7 hY5
  have hL7 := keepB b7 hL5
  have hT7 := keepB b7 hT5
  clear y0 y1 y2 y3 y4 y5 q0 q1 q2 q3 hf4 hY5 hL5 hT5 rep6 HCR V5 b6 b7 hw5
  obtain ⟨y0, y1, y2, y3, y4, y5⟩ := of6 hY7
  have z0 := cell_of_row _ _ 0 _ _ _ hZ
  have z1 := cell_of_row _ _ 1 _ _ _ hZ
  have z2 := cell_of_row _ _ 2 _ _ _ hZ
  have z3 := cell_of_row _ _ 3 _ _ _ hZ
  obtain ⟨V, hV⟩ : ∃ V, valsL l ⟨pu, pk, pa, pc, pe, tg⟩ r = V := ⟨_, rfl⟩
  obtain ⟨E, hE⟩ : ∃ E, valsE l ⟨pu, pk, pa, pc, pe, tg⟩ r = E := ⟨_, rfl⟩
  have HVW : Hid (∀ x ∈ V, (Lit.int .i64 x).wf = true) := Lib.hid (by rw [← hV]; exact valsL_wf _ _ _)
  have HVL : Hid (V.length ≤ 4096) := Lib.hid (by rw [← hV]; have := valsL_len l ⟨pu, pk, pa, pc, pe, tg⟩ r; have := HPN.out; simp only at *; omega)
  obtain ⟨w7, hw7⟩ : ∃ w7, w7 = w6.alloc (.cells #[.int .i64 x, .slice Co mo ko, .slice Cs ms ks, .slice Cf mf kf] 30) := ⟨_, rfl⟩
  rw [← hw7] at REP7 V7 hY7 hL7 hT7 hZ
  have hz67 : Hid (w6.heap.size < w7.heap.size) := Lib.hid (by rw [hw7]; simp)
  have HB67 : Hid (Below w6.heap.size w6 w7) := Lib.hid (by rw [hw7]; exact bel_alloc _ _)
  have hg35' := Lib.hid hg35
  have hg36 : Hid (w3.heap.size < w6.heap.size) := Lib.hid (by omega)
  have hL23 : Hid (w1.heap.size < w3.heap.size) := Lib.hid (by have := hz3'.out; have := hLz.out; omega)
  have HVA : Hid (∀ W : World, Below w7.heap.size w7 W → Calls Tryz.prog 10 #[.slice (some ⟨w1.heap.size, 0, none⟩) n (n + 5), .agg #[.int .i64 pu, .int .i64 pk, .int .i64 pa, .int .i64 pc, .int .i64 pe, .slice (some ⟨w3.heap.size, 0, none⟩) pn (pn + 5)], .agg #[.int .i64 x, .slice Co mo ko, .slice Cs ms ks, .slice Cf mf kf]] W (GivesI W V E)) := Lib.hid fun W hb => by
    have hLW := keepB hb hL7
    have hTW := keepB hb hT7
    have h := Values10_any (some ⟨w1.heap.size, 0, none⟩) n (n + 5) l pu pk pa pc pe (some ⟨w3.heap.size, 0, none⟩) pn (pn + 5) tg Co Cs Cf mo ms mf ko ks kf r W (VRow.of_block hLW _ (by rw [flatV_append]; exact List.prefix_append _ _)) HN.out hnb HOK.out ((Row.of_block hTW tg HRW.out.1 (List.prefix_append _ _)).more (by have := block_lt hTW; omega)) HPN.out (by omega) ((REP7.out.below hb).more hb.size) hks1 (by omega) HXW.out
    rw [HX.out, hV, hE] at h
    exact h
  have HRV : Hid (∀ W : World, Below w7.heap.size w7 W → Calls Tryz.prog 11 #[.slice A n c, .agg #[.int .i64 pu, .int .i64 pk, .int .i64 pa, .int .i64 pc, .int .i64 pe, .slice Pt pn pm], .agg #[.int .i64 x, .slice Bo mo eo, .slice Bs ms es, .slice Bf mf ef]] W (GivesI W V E)) := Lib.hid fun W hb => by
    have hbw := (V7.below hb).bel
    have h := refValues10_any A n c l pu pk pa pc pe Pt pn pm tg Bo Bs Bf mo ms mf eo es ef r W ((HR.out.below hbw).more hbw.size) HN.out hnb HOK.out ((HRW.out.below hbw).more hbw.size) HPN.out (by omega) ((HRP.out.below hbw).more hbw.size) hms hes HXW.out
    rw [HX.out, hV, hE] at h
    exact h
  clear hV hE
  have HKT : Hid (KOwn .i64 3 w7 w3.heap.size (.slice (some ⟨w3.heap.size, 0, none⟩) pn (pn + 5)) tg) := Lib.hid (KOwn.lentI hT7 HPN.out (by omega))
  have hEE : (E != E) = false := by simp
  have HV7 := Lib.hid V7
  have HL7 := Lib.hid hL7
  have HT7 := Lib.hid hT7
  have HY7 := Lib.hid hY7
  have HZ7 := Lib.hid hZ
  clear V7 hL7 hY7 hZ
  have hT6 := Lib.hid (block_lt hT7)
  clear hT7
  go_wp2_with fail
  rw [← hw7]
  refine (HVA.out w7 (Below.refl _ _)).mono ?_
  rintro e w8 ⟨v1, rfl, own1, b8⟩
  clear y0 y1 y2 y3 y4 y5 z0 z1 z2 z3 hw7
  obtain ⟨y0, y1, y2, y3, y4, y5⟩ := of6 (keepB b8 HY7.out)
  have z0 := cell_of_row _ _ 0 _ _ _ (keepB b8 HZ7.out)
  have z1 := cell_of_row _ _ 1 _ _ _ (keepB b8 HZ7.out)
  have z2 := cell_of_row _ _ 2 _ _ _ (keepB b8 HZ7.out)
  have z3 := cell_of_row _ _ 3 _ _ _ (keepB b8 HZ7.out)
  go_wp2_with fail
  refine (HVA.out w8 b8).mono ?_
  rintro e w9 ⟨v2, rfl, own2, b9⟩
  have b79 := b8.trans (b9.mono b8.size)
  clear y0 y1 y2 y3 y4 y5 z0 z1 z2 z3
  obtain ⟨p0, p1, p2, p3, p4, p5⟩ := of6 (HV7.out.below b79).b1
  have q0 := cell_of_row _ _ 0 _ _ _ (HV7.out.below b79).b2
  have q1 := cell_of_row _ _ 1 _ _ _ (HV7.out.below b79).b2
  have q2 := cell_of_row _ _ 2 _ _ _ (HV7.out.below b79).b2
  have q3 := cell_of_row _ _ 3 _ _ _ (HV7.out.below b79).b2
  go_wp2_with fail
  refine (HRV.out w9 b79).mono ?_
  rintro e w10 ⟨v3, rfl, own3, b10⟩
  have b710 := b79.trans (b10.mono b79.size)
  have own1x := Lib.hid (own1.below (b9.trans (b10.mono b9.size)) (Nat.le_refl _))
  have own2x := Lib.hid (own2.below b10 (Nat.le_refl _))
  have own1b := Lib.hid (fun g e => (own1.block g e).2)
  clear p0 p1 p2 p3 p4 p5 q0 q1 q2 q3
  obtain ⟨A1, c1, rfl, R1, _, _⟩ := own1x.out.row HVW.out
  obtain ⟨A2, c2, rfl, R2, _, _⟩ := own2x.out.row HVW.out
  obtain ⟨A3, c3, rfl, R3, _, _⟩ := own3.row HVW.out
  have HR1 := Lib.hid R1
  have HR2 := Lib.hid R2
  have HR3 := Lib.hid R3
  obtain ⟨nv, hnv⟩ : ∃ nv, V.length = nv := ⟨_, rfl⟩
  have HNV := Lib.hid hnv
  have hsz8 := b8.size
  have B710 := Lib.hid b710
  rw [hnv] at own1x own2x own1b ⊢
  clear own1 own2 own3 R1 R2 R3 hnv b9 b10 b79 b710
  go_wp2_with fail
  refine (I.same_yes_i64 A1 A3 nv c1 c3 V _ w10.heap.size w10.heap.size HR1.out HR3.out HNV.out (by have := HVL.out; have := HNV.out; omega)).mono ?_
  rintro e w11' ⟨rfl, m11, hw11⟩
  rw [hw11]
  clear hw11
  go_wp2_with fail
  refine (I.same_yes_i64 A2 A3 nv c2 c3 V _ w10.heap.size w10.heap.size (HR2.out.drewN m11) (HR3.out.drewN m11) HNV.out (by have := HVL.out; have := HNV.out; omega)).mono ?_
  rintro e w12' ⟨rfl, m12, hw12⟩
  rw [hw12]
  obtain ⟨w12, hw12e⟩ : ∃ w12, w12 = (w10.drewN m11).drewN m12 := ⟨_, rfl⟩
  rw [← hw12e]
  have b712 : Below w7.heap.size w7 w12 := by rw [hw12e]; exact below_drewN (below_drewN B710.out m11) m12
  have b1012 : Below w10.heap.size w10 w12 := by rw [hw12e]; exact below_drewN (below_drewN (Below.refl _ _) m11) m12
  clear hw12 hw12e
  have own1y := own1x.out.below b1012 (Nat.le_refl _)
  have own2y := own2x.out.below b1012 (Nat.le_refl _)
  have own3y := HKT.out.below b712 (Nat.le_refl _)
  obtain ⟨y0, y1, y2, y3, y4, y5⟩ := of6 (keepB b712 HY7.out)
  have hs712 := b712.size
  go_wp2_with fail
  refine (apart3I w12 w.heap.size w7.heap.size w8.heap.size w3.heap.size (.slice A1 nv c1) (.slice A2 nv c2) (.slice (some ⟨w3.heap.size, 0, none⟩) pn (pn + 5)) V V tg 23 own1y own2y own3y HVW.out HVW.out HRW.out.1 (by have := HVL.out; omega) (by have := HVL.out; omega) (by have := HPN.out; omega) (by have := HV7.out.sz; omega) (by have := HV7.out.sz; omega) (by have := hz3'.out; omega) (fun g e => by have e : some w3.heap.size = some g := e; injection e with e; have := hT6.out; omega) own1b.out hsz8 (by have := HV7.out.sz; omega)).mono ?_
  rintro e w13 ⟨rfl, b13⟩
  have hkeep : ∀ b, b < w7.heap.size → b ≠ w3.heap.size → w13.heap[b]? = w7.heap[b]? := by
    intro b hb hne
    refine (b13.block b (by omega) ?_).trans (b712.block b hb)
    rintro (h | h | h)
    · have := (own1y.block b h).1; omega
    · have := (own2y.block b h).1; omega
    · have h : some w3.heap.size = some b := h
      injection h with h
      exact hne h.symm
  have hz13 := b13.size
  have hv7 := HV7.out.sz
  have bel13 : Below w.heap.size w w13 := ⟨b13.os.trans (HV7.out.below b712).bel.os, b13.tape.trans (HV7.out.below b712).bel.tape, b13.output.trans (HV7.out.below b712).bel.output, Nat.le_trans (HV7.out.below b712).bel.size hz13, fun b hb => (hkeep b (by omega) (by have := hz3'.out; omega)).trans (HV7.out.bel.block b hb)⟩
  have hL13 := (hkeep w1.heap.size (block_lt HL7.out) (by have := hL23.out; omega)).trans HL7.out
  have hZ13 := (hkeep w6.heap.size hz67.out (by have := hg36.out; omega)).trans HZ7.out
  have hR13 := (hkeep (w.heap.size + 1) (by omega) (by have := hz3'.out; omega)).trans HV7.out.b2
  have HO6 : Only w6 w13 (fun b => b = w3.heap.size) := ⟨b13.os.trans (b712.os.trans HB67.out.os), b13.tape.trans (b712.tape.trans HB67.out.tape), b13.output.trans (b712.output.trans HB67.out.output), by have := hz67.out; omega, fun b hb hne => (hkeep b (by have := hz67.out; omega) hne).trans (HB67.out.block b hb)⟩
  have REP13 := Lib.hid (HST.out w13 _ HO6 (fun b hb => by subst hb; exact hg35'.out))
  have B13 := Lib.hid bel13
  clear own1y own2y own3y y0 y1 y2 y3 y4 y5 hkeep b13 b712 b1012 HO6 bel13
  go_wp2_with fail
  refine (kept_tg A n c w1.heap.size l w13 w13.heap.size ((HR.out.below B13.out).more B13.out.size) HN.out (by omega) hL13).mono ?_
  rintro e w14' ⟨rfl, m14, hw14⟩
  obtain ⟨w14, hw14e⟩ : ∃ w14, w14 = w13.drewN m14 := ⟨_, rfl⟩
  rw [hw14, ← hw14e]
  have b1314 : Below w13.heap.size w13 w14 := by rw [hw14e]; exact below_drewN (Below.refl _ _) m14
  clear hw14 hw14e
  have B14 := Lib.hid (B13.out.trans (b1314.mono B13.out.size))
  have REP14 := Lib.hid ((REP13.out.below b1314).more b1314.size)
  have z0 := cell_of_row _ _ 0 _ _ _ (keepB b1314 hZ13)
  have z1 := cell_of_row _ _ 1 _ _ _ (keepB b1314 hZ13)
  have z2 := cell_of_row _ _ 2 _ _ _ (keepB b1314 hZ13)
  have z3 := cell_of_row _ _ 3 _ _ _ (keepB b1314 hZ13)
  have q0 := cell_of_row _ _ 0 _ _ _ (keepB b1314 hR13)
  have q1 := cell_of_row _ _ 1 _ _ _ (keepB b1314 hR13)
  have q2 := cell_of_row _ _ 2 _ _ _ (keepB b1314 hR13)
  have q3 := cell_of_row _ _ 3 _ _ _ (keepB b1314 hR13)
  have RP0 := Lib.hid ((HRP.out.below B14.out).more B14.out.size)
  clear hL13 hZ13 hR13 b1314
  go_wp2_with fail
  refine (SameReply_yes x r.on r.set r.fs Co Cs Cf Bo Bs Bf mo ms mf ko ks kf eo es ef w14 REP14.out.on REP14.out.set RP0.out.on RP0.out.set REP14.out.fs RP0.out.fs HRP.out.mo HRP.out.ms HRP.out.mf (by omega) (by omega) (by omega) (fun i hi => by have := HFS.out i hi; omega)).mono ?_
  rintro e w15 ⟨rfl, b15⟩
  have B15 := Lib.hid (B14.out.trans (b15.mono B14.out.size))
  clear z0 z1 z2 z3 q0 q1 q2 q3 b15
  go_wp2_with fail
  refine (works10_yes _).mono ?_
  rintro e w16 ⟨rfl, b16⟩
  have bel16 := B15.out.trans (b16.mono B15.out.size)
  go_wp2
  go_ret
  exact ⟨rfl, bel16⟩

end Go.Proofs.YtcmbdhmhkfhjfaaGreat
namespace Go.Proofs.YtcmbdhmhkfhjfaaGreat.planValues
open Go.ChangeShapes Go.WideShapes Go.ChangeAt Go.RowKit
open Go.ChangeMaps (open_string shut_string)
set_option linter.unusedVariables false

theorem own : ownKnob Tryz.prog.godebug = none := by kernel_rfl
theorem laidOut : laidOutB Tryz.prog = true := by kernel_rfl

set_option maxRecDepth 100000 in
theorem lifted (os : Os) (started : os.Started) (H : Type) (enc : TypeId × Value → H) :
    ReturnsInHanded {} Tryz.checked os 3 .any (Rows.planValuesSpec.pre6 enc Tryz.prog Tryz.f3 Rows.planValuesRow.domain false) (Rows.planValuesSpec.post enc Tryz.prog Tryz.f3 false true false false) := by
  refine returnsInHanded_of_change_sized (C := Tryz.checked) own started (by kernel_rfl) Tryz.func3
    (ChangeSpec.witness6 (enc := enc) (C := Tryz.checked) false ⟨#[], #[.slice none 0 0, .agg #[.int .i64 0, .int .i64 0, .int .i64 0, .int .i64 0, .int .i64 0, .slice none 0 0], .agg #[.int .i64 0, .slice none 0 0, .slice none 0 0, .slice none 0 0]], []⟩ 8 (by kernel_rfl) (by kernel_rfl) (by kernel_rfl) (by kernel_rfl)) ?_
  intro W base args ds gs before hval0 hW hcnd hsz0 _
  have hsz : (DataW.weightsEach Tryz.prog (Tryz.f3.params.toList ++ Rows.planValuesSpec.plain.varTypes Tryz.prog) (ds ++ gs)).all (· ≤ reachBytes) = true := hsz0
  clear hsz0
  have hval : ∀ (j : Nat) t v, Tryz.f3.params[j]? = some t → args[j]? = some v → Value.okWide Tryz.prog W .any base t v := hval0
  have hW' := hW
  obtain ⟨p, q, hA0, hV, rfl, hfz, hnd⟩ := hW
  have hA : DataW.TrodAll enc Tryz.prog W 0 (fun _ => true) true Tryz.f3.params.toList args.toList ds p := hA0
  rw [Tryz.params3] at hA hval hsz
  obtain ⟨v0, vs0, d0, ds0, p0, q0, hargs, rfl, rfl, h0, r0⟩ := trodAll_cons hA
  obtain ⟨v1, vs1, d1, ds1, p1, q1, rfl, rfl, rfl, h1, r1⟩ := trodAll_cons r0
  obtain ⟨v2, vs2, d2, ds2, p2, q2, rfl, rfl, rfl, h2, r2⟩ := trodAll_cons r1
  obtain ⟨rfl, rfl, rfl⟩ := trodAll_nil r2
  obtain rfl : args = #[v0, v1, v2] := by cases args; simp_all
  obtain ⟨rfl, rfl⟩ := trodVars_none hV
  obtain ⟨a0, l0, c0, rfl⟩ := okWide_slice Tryz.underlying22 (hval 0 22 v0 rfl rfl)
  have k0 := h0
  have lt0 : ∀ x ∈ p0, x.block < W.heap.size := by obtain ⟨m, hm⟩ := k0; exact DataW.trod_lt m _ _ _ hm
  obtain ⟨x0, w0, n0, o0, s0, r0d⟩ := tags_in h0 lt0
  have m0 := reach_tags hsz 0 rfl rfl r0d
  have k1 := h1
  have lt1 : ∀ x ∈ p1, x.block < W.heap.size := by obtain ⟨m, hm⟩ := k1; exact DataW.trod_lt m _ _ _ hm
  obtain ⟨u1, kk1, a1, c1, e1, A1, n1, m1, tg1, rfl, w1, nn1, wf1⟩ := poll_in Tryz.underlying25 (by kernel_rfl) (by kernel_rfl) Tryz.underlying3 Tryz.underlying3 Tryz.underlying3 Tryz.underlying3 Tryz.underlying3 Tryz.underlying23 Tryz.underlying3 (by kernel_rfl) (hval 1 25 v1 rfl rfl) h1 lt1
  have k2 := h2
  have lt2 : ∀ x ∈ p2, x.block < W.heap.size := by obtain ⟨m, hm⟩ := k2; exact DataW.trod_lt m _ _ _ hm
  obtain ⟨r_2, Bo2, Bs2, Bf2, mo2, ms2, mf2, eo2, es2, ef2, rfl, w2, wf2, sh2, le2, ca2⟩ := rep_in3 Tryz.underlying30 (by kernel_rfl) (by kernel_rfl) Tryz.underlying3 Tryz.underlying26 Tryz.underlying4 (by kernel_rfl) Tryz.underlying27 Tryz.underlying58 (by kernel_rfl) Tryz.underlying28 Tryz.underlying27 Tryz.underlying58 (by kernel_rfl) (by kernel_rfl) (hval 2 30 v2 rfl rfl) h2 lt2 (by kernel_rfl) (of_decide_eq_true (by kernel_rfl)) hsz 2 rfl rfl
  clear hA0 hval0
  refine (walk_PlanValues a0 l0 c0 x0 u1 kk1 a1 c1 e1 A1 n1 m1 tg1 r_2 Bo2 Bs2 Bf2 mo2 ms2 mf2 eo2 es2 ef2 W w0 n0 (by omega) o0 w1 nn1 w2 wf2 sh2 le2 (by omega)).mono fun e W' ⟨he, bel⟩ => ?_
  subst he
  exact ⟨_, rfl, _, _, _, [], _, [], hW', trodAll_mk1 (shut_bool Tryz.underlying4 _), (trodAll_cons_mk (Below.trod laidOut (by kernel_rfl) (of_decide_eq_true (by kernel_rfl)) k0 bel lt0) (trodAll_cons_mk (Below.trod laidOut (by kernel_rfl) (of_decide_eq_true (by kernel_rfl)) k1 bel lt1) (trodAll_cons_mk (Below.trod laidOut (by kernel_rfl) (of_decide_eq_true (by kernel_rfl)) k2 bel lt2) trodAll_mk0))), rfl, bel.frame _, fun h => by cases h⟩

theorem over : Rows.planValuesRow.holds Tryz.pinned (OpenSpec.ofChange Rows.planValuesSpec) :=
  OpenClaim.holds_of_wide 3 Tryz.f3 rfl rfl rfl rfl rfl rfl rfl ⟨rfl, rfl, rfl, rfl, rfl⟩ rfl rfl rfl rfl rfl (by kernel_rfl) Tryz.func3 (by kernel_rfl)
    (of_decide_eq_true (by kernel_rfl)) (by unfold Func.isWrapper; first | (rw [if_pos (by decide +kernel)]; kernel_rfl) | (rw [if_neg (by decide +kernel)]; exact ⟨rfl, rfl⟩))
    (fun os started H enc _ => lifted os started H enc)

theorem proved : Rows.PlanValuesSaid := over
#print axioms proved
end Go.Proofs.YtcmbdhmhkfhjfaaGreat.planValues
