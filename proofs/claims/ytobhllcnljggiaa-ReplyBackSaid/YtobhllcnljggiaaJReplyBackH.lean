/-
  Texts of the proof of ReplyBack, joined.
-/
import Derived.Test.YtobhllcnljggiaaJReplyBackA
import Derived.Test.YtobhllcnljggiaaJReplyBackG
import Derived.Test.YtobhllcnljggiaaJReplyBackB
import Derived.Laws.CopyOwn
import Derived.StillTailTactics
import Derived.IntWalk
import Derived.Deep.RegionHeld3
import Derived.Deep.AppendLies
import Derived.Deep.RegionLaw
import Derived.Deep.RegionWith
import Derived.Test.YtobhllcnljggiaaJReplyBackD
namespace Go.Proofs.Ytobhllcnljggiaa
open Go.RowKit
set_option linter.unusedVariables false
/-- Rows that lie in blocks of their own, each known whole (or nil), their slices in the array of block gl. -/
structure Parts (w : World) (B gl m : Nat) (A : Nat → Option Addr) (n c : Nat → Nat) (l r : Nat → List Int) : Prop where
  at_ : ∀ k, k < m → w.cell? ⟨gl, k, none⟩ = some (.slice (A k) (n k) (c k))
  size : ∀ k, k < m → n k ≤ c k ∧ c k ≤ 140737488355328 ∧ (l k).length = c k
  wf : ∀ k, k < m → ∀ x ∈ l k, (Lit.int .u8 x).wf = true
  lies : ∀ k, k < m → (A k = none ∧ n k = 0 ∧ c k = 0) ∨ ∃ g, A k = some ⟨g, 0, none⟩ ∧ B ≤ g ∧ g ≠ gl ∧ w.heap[g]? = some (.cells (blk .u8 (l k ++ r k)) 5 (0, 0))
  apart : ∀ i k, i < m → k < m → i ≠ k → ∀ g, A i = some ⟨g, 0, none⟩ → A k ≠ some ⟨g, 0, none⟩
  gl_lt : gl < w.heap.size

theorem Parts.row {w : World} {B gl m : Nat} {A : Nat → Option Addr} {n c : Nat → Nat} {l r : Nat → List Int} (h : Parts w B gl m A n c l r) {k : Nat} (hk : k < m) :
    Row .u8 w w.heap.size (A k) ((l k).take (n k)) ∧ ((l k).take (n k)).length = n k := by
  have hs := h.size k hk
  refine ⟨?_, by simp; omega⟩
  rcases h.lies k hk with ⟨ha, hn, hc⟩ | ⟨g, ha, _, _, hg⟩
  · rw [hn, List.take_zero]; exact Row.nil _ _ _ _
  · rw [ha]
    exact (Row.of_block hg _ (fun x hx => h.wf k hk x (List.mem_of_mem_take hx)) ((List.take_prefix _ _).trans (List.prefix_append _ _))).more (block_lt hg)
/-- A step that leaves all old blocks leaves the parts. -/
theorem Parts.below {w w' : World} {B gl m : Nat} {A : Nat → Option Addr} {n c : Nat → Nat} {l r : Nat → List Int} (h : Parts w B gl m A n c l r) (hb : Below w.heap.size w w') : Parts w' B gl m A n c l r where
  at_ := fun k hk => (hb.cell (p := ⟨gl, k, none⟩) h.gl_lt).trans (h.at_ k hk)
  size := h.size
  wf := h.wf
  lies := fun k hk => by
    rcases h.lies k hk with h0 | ⟨g, ha, hB, hne, hg⟩
    · exact .inl h0
    · exact .inr ⟨g, ha, hB, hne, (hb.block g (block_lt hg)).trans hg⟩
  apart := h.apart
  gl_lt := Nat.lt_of_lt_of_le h.gl_lt hb.size
/-- One part is written over. -/
theorem Parts.spoil {w w' : World} {B gl m : Nat} {A : Nat → Option Addr} {n c : Nat → Nat} {l r : Nat → List Int} (h : Parts w B gl m A n c l r) {i g : Nat} (hi : i < m) (ha : A i = some ⟨g, 0, none⟩)
    (hg : w'.heap[g]? = some (.cells (blk .u8 (spoil8 (c i) (l i) ++ r i)) 5 (0, 0))) (hgr : w.grownBy w' (some g)) : Parts w' B gl m A n c (fun k => if k = i then spoil8 (c i) (l i) else l k) r where
  at_ := fun k hk => by
    rcases h.lies i hi with ⟨h0, _⟩ | ⟨g', ha', _, hne, _⟩
    · rw [ha] at h0; cases h0
    · rw [ha] at ha'
      injection ha' with ha'
      injection ha' with ha'
      subst ha'
      exact (World.cell?_of_block (hgr.block gl h.gl_lt (fun e => hne (by injection e with e; exact e.symm)))).trans (h.at_ k hk)
  size := fun k hk => by
    have := h.size k hk
    refine ⟨this.1, this.2.1, ?_⟩
    split
    · rename_i e; subst e; rw [spoil8_length]; exact this.2.2
    · exact this.2.2
  wf := fun k hk => by
    show ∀ x ∈ (if k = i then spoil8 (c i) (l i) else l k), _
    split
    · exact spoil8_wf _ _ (h.wf i hi)
    · exact h.wf k hk
  lies := fun k hk => by
    by_cases e : k = i
    · subst e
      rcases h.lies k hi with ⟨h0, _⟩ | ⟨g', ha', hB, hne, _⟩
      · rw [ha] at h0; cases h0
      · rw [ha] at ha'
        injection ha' with ha'
        injection ha' with ha'
        subst ha'
        exact .inr ⟨g, ha, hB, hne, by rw [if_pos rfl]; exact hg⟩
    · rcases h.lies k hk with h0 | ⟨g', ha', hB, hne, hg'⟩
      · exact .inl h0
      · refine .inr ⟨g', ha', hB, hne, ?_⟩
        rw [if_neg e, hgr.block g' (block_lt hg') (fun e' => ?_)]
        · exact hg'
        · injection e' with e'
          subst e'
          exact h.apart k i hk hi e _ ha' ha
  apart := h.apart
  gl_lt := Nat.lt_of_lt_of_le h.gl_lt hgr.size

set_option maxHeartbeats 1000000 in
theorem apart_u8 (gl m B : Nat) (A : Nat → Option Addr) (n c : Nat → Nat) (l0 r : Nat → List Int) (w : World) (hP : Parts w B gl m A n c l0 r) (hB : B ≤ w.heap.size) (hm : m ≤ 1000) :
    Calls Try.prog 16 #[.slice (some ⟨gl, 0, none⟩) m m] w fun e w' => e = .returned (.bool true) ∧ Below B w w' := by
  go_enter Try.func16, Try.ntmps16
  go_wp2
  go_loopw [3, 4, 5] (fun i _ _ wr => ∃ (j : Nat) (l : Nat → List Int), j ≤ m ∧ i = .int .i64 j ∧ Parts wr B gl m A n c l r ∧ Below B w wr) (fun i _ _ _ => m - (intOf i).toNat)
  case atStart => exact ⟨0, l0, by omega, rfl, hP, Below.refl _ _⟩
  case round =>
    obtain ⟨i, l1, hi, rfl, hP1, hb1⟩ := hrel
    by_cases hlt : i < m
    · go_wp2
      obtain ⟨wo, hwo⟩ : ∃ wo : World, wo = wr := ⟨_, rfl⟩
      subst hwo
      go_loopw [4, 5] (fun k _ wr => ∃ (j : Nat) (l : Nat → List Int), j ≤ m ∧ k = .int .i64 j ∧ Parts wr B gl m A n c l r ∧ Below B w wr) (fun k _ _ => m - (intOf k).toNat)
      case atStart => exact ⟨0, l1, by omega, rfl, hP1, hb1⟩
      case round =>
        obtain ⟨k, l, hk, rfl, hP2, hb2⟩ := hrel
        by_cases hlk : k < m
        · by_cases hik : i = k
          · subst hik
            go_wp2
            go_roundw
            case rel => exact ⟨i + 1, l, by omega, by go_num, hP2, hb2⟩
            case measure => simp [intOf]; omega
          · have ht : ((i : Int) == (k : Int)) = false := by simp; omega
            have hck := hP2.at_ k hlk
            have hci := hP2.at_ i hlt
            obtain ⟨hrow, hrl⟩ := hP2.row hlk
            have hrl' := Lib.hid hrl
            clear hrl
            have hsk := hP2.size k hlk
            go_wp2_with fail
            refine (copy_u8 _ _ _ _ _ hrow hrl'.out (by omega)).mono ?_
            rintro e w1 ⟨v1, rfl, own1, bel1⟩
            have hP3 := hP2.below bel1
            have hb3 : Below B w w1 := hb2.trans (bel1.mono (Nat.le_trans hB hb2.size))
            have hck1 := hP3.at_ k hlk
            have hci1 := hP3.at_ i hlt
            have hwf := hrow.1
            rcases hP3.lies i hlt with ⟨hA, hN, hC⟩ | ⟨g, hA, hBg, hgl, hg⟩
            · rw [hA, hN, hC] at hci1
              clear hA hN hC hck hci hrow
              obtain ⟨A1, c1, rfl, row1, _, _⟩ := own1.row hwf
              rw [hrl'.out]
              obtain ⟨hrow3, hrl3⟩ := hP3.row hlk
              have hrl3' := Lib.hid hrl3
              clear hrl3
              go_wp2_with fail
              refine (spoil_nil _).mono ?_
              rintro e w' ⟨rfl, rfl⟩
              go_wp2_with fail
              refine (same_yes_u8 _ _ _ _ _ _ _ _ _ row1 hrow3 hrl3'.out (by omega)).mono ?_
              rintro e w' ⟨rfl, mq, rfl⟩
              have hP4 := hP3.below (w' := w1.drewN mq) ⟨rfl, rfl, rfl, Nat.le_refl _, fun _ _ => rfl⟩
              have hb4 : Below B w (w1.drewN mq) := hb3.trans ⟨rfl, rfl, rfl, Nat.le_refl _, fun _ _ => rfl⟩
              go_wp2
              go_roundw
              case rel => exact ⟨k + 1, l, by omega, by go_num, hP4, hb4⟩
              case measure => simp [intOf]; omega
            · have hsi := hP3.size i hlt
              have hglt : g < wr.heap.size := by
                rcases hP2.lies i hlt with ⟨h0, _⟩ | ⟨g', hA', _, _, hg'⟩
                · rw [hA] at h0; cases h0
                · rw [hA] at hA'
                  injection hA' with hA'
                  injection hA' with hA'
                  rw [hA']
                  exact block_lt hg'
              rw [hA] at hci1
              clear hck hci hrow
              have hsi3 := Lib.hid hsi.2.2
              go_wp2_with fail
              refine (spoil_u8 g _ _ (l i) (r i) _ hg hsi3.out hsi.1 hsi.2.1).mono ?_
              rintro e w2 ⟨rfl, hg2, hgr2, hsz2⟩
              have hP4 := hP3.spoil hlt hA hg2 hgr2
              have hb4 : Below B w w2 := hb3.grown hgr2 (Nat.le_trans hB hb3.size) (fun q e => by injection e; omega)
              have own2 := own1.kept hgr2 (by
                cases hv : v1.ownBlock with
                | none => exact .inl rfl
                | some q =>
                  refine .inr fun e => ?_
                  have h1 := (own1.block q hv).1
                  injection e with e
                  omega)
              have hck2 := hP4.at_ k hlk
              obtain ⟨hrow4, hrl4⟩ := hP4.row hlk
              simp only [if_neg (show ¬ k = i by omega)] at hrow4 hrl4
              have hrl4' := Lib.hid hrl4
              obtain ⟨A1, c1, rfl, row1, _, _⟩ := own2.row hwf
              rw [hrl'.out]
              clear hsz2 hrl4 hck1 hci1 hgr2 hg2 hg hA
              go_wp2_with fail
              refine (same_yes_u8 _ _ _ _ _ _ _ _ _ row1 hrow4 hrl4'.out (by omega)).mono ?_
              rintro e w' ⟨rfl, mq, rfl⟩
              have hP5 := hP4.below (w' := w2.drewN mq) ⟨rfl, rfl, rfl, Nat.le_refl _, fun _ _ => rfl⟩
              have hb5 : Below B w (w2.drewN mq) := hb4.trans ⟨rfl, rfl, rfl, Nat.le_refl _, fun _ _ => rfl⟩
              go_wp2
              go_roundw
              case rel => exact ⟨k + 1, _, by omega, by go_num, hP5, hb5⟩
              case measure => simp [intOf]; omega
        · go_wp2
          go_roundw
          case rel => exact ⟨i + 1, l, by omega, by go_num, hP2, hb2⟩
          case measure => simp [intOf]; omega
    · go_wp2
      go_ret
      exact ⟨rfl, hb1⟩

/-- A slice that is handed to ApartBytes: nil, or the beginning of a block that is known whole. -/
structure Ent where
  a : Option Nat
  n : Nat
  c : Nat
  l : List Int
  r : List Int
def Ent.none_ : Ent := ⟨none, 0, 0, [], []⟩
def Ent.adr (e : Ent) : Option Addr := e.a.map fun g => ⟨g, 0, none⟩
def Ent.val (e : Ent) : Value := .slice e.adr e.n e.c
structure Ent.Ok (w : World) (B : Nat) (e : Ent) : Prop where
  size : e.n ≤ e.c ∧ e.c ≤ 140737488355328 ∧ e.l.length = e.c
  wf : ∀ x ∈ e.l, (Lit.int .u8 x).wf = true
  lies : (e.a = none ∧ e.n = 0 ∧ e.c = 0) ∨ ∃ g, e.a = some g ∧ B ≤ g ∧ w.heap[g]? = some (.cells (blk .u8 (e.l ++ e.r)) 5 (0, 0))
def Ent.Far (e e' : Ent) : Prop := ∀ g, e.a = some g → e'.a ≠ some g
theorem Ent.adr_some {e : Ent} {g : Nat} (h : e.adr = some ⟨g, 0, none⟩) : e.a = some g := by
  unfold Ent.adr at h
  cases ha : e.a with
  | none => rw [ha] at h; cases h
  | some q => rw [ha] at h; simp at h; rw [h]

theorem parts_of_list (w : World) (B : Nat) (L : List Ent) (t : TypeId) (hok : ∀ e ∈ L, e.Ok w B) (hfar : L.Pairwise Ent.Far) :
    Parts (w.alloc (.cells (L.map Ent.val).toArray t)) B w.heap.size L.length (fun k => (L.getD k Ent.none_).adr) (fun k => (L.getD k Ent.none_).n) (fun k => (L.getD k Ent.none_).c) (fun k => (L.getD k Ent.none_).l) (fun k => (L.getD k Ent.none_).r) where
  at_ := fun k hk => by
    rw [World.cell?_alloc_at _ _ _ _ rfl]
    simp [List.getElem?_eq_getElem hk, List.getD_eq_getElem?_getD, Ent.val]
  size := fun k hk => by
    simp only [List.getD_eq_getElem?_getD, List.getElem?_eq_getElem hk, Option.getD_some]
    exact (hok _ (List.getElem_mem hk)).size
  wf := fun k hk => by
    simp only [List.getD_eq_getElem?_getD, List.getElem?_eq_getElem hk, Option.getD_some]
    exact (hok _ (List.getElem_mem hk)).wf
  lies := fun k hk => by
    simp only [List.getD_eq_getElem?_getD, List.getElem?_eq_getElem hk, Option.getD_some]
    rcases (hok _ (List.getElem_mem hk)).lies with ⟨h1, h2⟩ | ⟨g, h1, h2, h3⟩
    · exact .inl ⟨by rw [Ent.adr, h1]; rfl, h2⟩
    · have := block_lt h3
      exact .inr ⟨g, by rw [Ent.adr, h1]; rfl, h2, by omega, (Below.heap_alloc w _ g this).trans h3⟩
  apart := fun i k hi hk hne g h1 h2 => by
    simp only [List.getD_eq_getElem?_getD, List.getElem?_eq_getElem hi, List.getElem?_eq_getElem hk, Option.getD_some] at h1 h2
    have h1 := Ent.adr_some h1
    have h2 := Ent.adr_some h2
    rcases Nat.lt_or_gt_of_ne hne with h | h
    · exact List.pairwise_iff_getElem.1 hfar i k hi hk h g h1 h2
    · exact List.pairwise_iff_getElem.1 hfar k i hk hi h g h2 h1
  gl_lt := by simp

theorem apart_list_u8 (w : World) (B : Nat) (L : List Ent) (t : TypeId) (hok : ∀ e ∈ L, e.Ok w B) (hfar : L.Pairwise Ent.Far) (hB : B ≤ w.heap.size) (hm : L.length ≤ 1000) :
    Calls Try.prog 16 #[.slice (some ⟨w.heap.size, 0, none⟩) L.length L.length] (w.alloc (.cells (L.map Ent.val).toArray t)) fun e w' => e = .returned (.bool true) ∧ Below B w w' :=
  (apart_u8 _ _ B _ _ _ _ _ _ (parts_of_list w B L t hok hfar) (by simp; omega) hm).mono fun _ _ ⟨he, hb⟩ => ⟨he, ((Below.refl B w).alloc hB _).trans hb⟩
end Go.Proofs.Ytobhllcnljggiaa
namespace Go.Proofs.Ytobhllcnljggiaa
open Go.RowKit
set_option linter.unusedVariables false
theorem pow_256 (n : Nat) : (2 : Nat) ^ (8 * n) = 256 ^ n := by rw [Nat.pow_mul]
theorem div_zero_iff (v n : Nat) : v / 256 ^ n = 0 ↔ v < 256 ^ n := by
  rw [Nat.div_eq_zero_iff]
  have : (256 : Nat) ^ n ≠ 0 := Nat.ne_of_gt (Nat.pow_pos (by omega))
  omega
end Go.Proofs.Ytobhllcnljggiaa
namespace Go.Proofs.Ytobhllcnljggiaa
open Go.RowKit
set_option linter.unusedVariables false

end Go.Proofs.Ytobhllcnljggiaa
namespace Go.Proofs.Ytobhllcnljggiaa
open Go.RowKit
set_option linter.unusedVariables false
theorem be_take_step (n v k : Nat) (h : k < n) : (be n v).take (k + 1) = (be n v).take k ++ [((v / 256 ^ (n - 1 - k) % 256 : Nat) : Int)] := by
  rw [take_step _ _ (by rw [be_length]; exact h), be_nth n v k h]
end Go.Proofs.Ytobhllcnljggiaa
namespace Go.Proofs.Ytobhllcnljggiaa.W
open Go.RowKit
set_option linter.unusedVariables false
/-- Rows that lie in blocks of their own, each known whole (or nil), their slices in the array of block gl. -/
structure Parts (w : World) (B gl m : Nat) (A : Nat → Option Addr) (n c : Nat → Nat) (l r : Nat → List Int) : Prop where
  at_ : ∀ k, k < m → w.cell? ⟨gl, k, none⟩ = some (.slice (A k) (n k) (c k))
  size : ∀ k, k < m → n k ≤ c k ∧ c k ≤ 70368744177664 ∧ (l k).length = c k
  wf : ∀ k, k < m → ∀ x ∈ l k, (Lit.int .u16 x).wf = true
  lies : ∀ k, k < m → (A k = none ∧ n k = 0 ∧ c k = 0) ∨ ∃ g, A k = some ⟨g, 0, none⟩ ∧ B ≤ g ∧ g ≠ gl ∧ w.heap[g]? = some (.cells (blk .u16 (l k ++ r k)) 75 (0, 0))
  apart : ∀ i k, i < m → k < m → i ≠ k → ∀ g, A i = some ⟨g, 0, none⟩ → A k ≠ some ⟨g, 0, none⟩
  gl_lt : gl < w.heap.size

theorem Parts.row {w : World} {B gl m : Nat} {A : Nat → Option Addr} {n c : Nat → Nat} {l r : Nat → List Int} (h : Parts w B gl m A n c l r) {k : Nat} (hk : k < m) :
    Row .u16 w w.heap.size (A k) ((l k).take (n k)) ∧ ((l k).take (n k)).length = n k := by
  have hs := h.size k hk
  refine ⟨?_, by simp; omega⟩
  rcases h.lies k hk with ⟨ha, hn, hc⟩ | ⟨g, ha, _, _, hg⟩
  · rw [hn, List.take_zero]; exact Row.nil _ _ _ _
  · rw [ha]
    exact (Row.of_block hg _ (fun x hx => h.wf k hk x (List.mem_of_mem_take hx)) ((List.take_prefix _ _).trans (List.prefix_append _ _))).more (block_lt hg)
/-- A step that leaves all old blocks leaves the parts. -/
theorem Parts.below {w w' : World} {B gl m : Nat} {A : Nat → Option Addr} {n c : Nat → Nat} {l r : Nat → List Int} (h : Parts w B gl m A n c l r) (hb : Below w.heap.size w w') : Parts w' B gl m A n c l r where
  at_ := fun k hk => (hb.cell (p := ⟨gl, k, none⟩) h.gl_lt).trans (h.at_ k hk)
  size := h.size
  wf := h.wf
  lies := fun k hk => by
    rcases h.lies k hk with h0 | ⟨g, ha, hB, hne, hg⟩
    · exact .inl h0
    · exact .inr ⟨g, ha, hB, hne, (hb.block g (block_lt hg)).trans hg⟩
  apart := h.apart
  gl_lt := Nat.lt_of_lt_of_le h.gl_lt hb.size
/-- One part is written over. -/
theorem Parts.spoil {w w' : World} {B gl m : Nat} {A : Nat → Option Addr} {n c : Nat → Nat} {l r : Nat → List Int} (h : Parts w B gl m A n c l r) {i g : Nat} (hi : i < m) (ha : A i = some ⟨g, 0, none⟩)
    (hg : w'.heap[g]? = some (.cells (blk .u16 (spoil16 (c i) (l i) ++ r i)) 75 (0, 0))) (hgr : w.grownBy w' (some g)) : Parts w' B gl m A n c (fun k => if k = i then spoil16 (c i) (l i) else l k) r where
  at_ := fun k hk => by
    rcases h.lies i hi with ⟨h0, _⟩ | ⟨g', ha', _, hne, _⟩
    · rw [ha] at h0; cases h0
    · rw [ha] at ha'
      injection ha' with ha'
      injection ha' with ha'
      subst ha'
      exact (World.cell?_of_block (hgr.block gl h.gl_lt (fun e => hne (by injection e with e; exact e.symm)))).trans (h.at_ k hk)
  size := fun k hk => by
    have := h.size k hk
    refine ⟨this.1, this.2.1, ?_⟩
    split
    · rename_i e; subst e; rw [spoil16_length]; exact this.2.2
    · exact this.2.2
  wf := fun k hk => by
    show ∀ x ∈ (if k = i then spoil16 (c i) (l i) else l k), _
    split
    · exact spoil16_wf _ _ (h.wf i hi)
    · exact h.wf k hk
  lies := fun k hk => by
    by_cases e : k = i
    · subst e
      rcases h.lies k hi with ⟨h0, _⟩ | ⟨g', ha', hB, hne, _⟩
      · rw [ha] at h0; cases h0
      · rw [ha] at ha'
        injection ha' with ha'
        injection ha' with ha'
        subst ha'
        exact .inr ⟨g, ha, hB, hne, by rw [if_pos rfl]; exact hg⟩
    · rcases h.lies k hk with h0 | ⟨g', ha', hB, hne, hg'⟩
      · exact .inl h0
      · refine .inr ⟨g', ha', hB, hne, ?_⟩
        rw [if_neg e, hgr.block g' (block_lt hg') (fun e' => ?_)]
        · exact hg'
        · injection e' with e'
          subst e'
          exact h.apart k i hk hi e _ ha' ha
  apart := h.apart
  gl_lt := Nat.lt_of_lt_of_le h.gl_lt hgr.size

/-- A slice that is handed to ApartWords: nil, or the beginning of a block that is known whole. -/
structure Ent where
  a : Option Nat
  n : Nat
  c : Nat
  l : List Int
  r : List Int
def Ent.none_ : Ent := ⟨none, 0, 0, [], []⟩
def Ent.adr (e : Ent) : Option Addr := e.a.map fun g => ⟨g, 0, none⟩
def Ent.val (e : Ent) : Value := .slice e.adr e.n e.c
structure Ent.Ok (w : World) (B : Nat) (e : Ent) : Prop where
  size : e.n ≤ e.c ∧ e.c ≤ 70368744177664 ∧ e.l.length = e.c
  wf : ∀ x ∈ e.l, (Lit.int .u16 x).wf = true
  lies : (e.a = none ∧ e.n = 0 ∧ e.c = 0) ∨ ∃ g, e.a = some g ∧ B ≤ g ∧ w.heap[g]? = some (.cells (blk .u16 (e.l ++ e.r)) 75 (0, 0))
def Ent.Far (e e' : Ent) : Prop := ∀ g, e.a = some g → e'.a ≠ some g
theorem Ent.adr_some {e : Ent} {g : Nat} (h : e.adr = some ⟨g, 0, none⟩) : e.a = some g := by
  unfold Ent.adr at h
  cases ha : e.a with
  | none => rw [ha] at h; cases h
  | some q => rw [ha] at h; simp at h; rw [h]

theorem parts_of_list (w : World) (B : Nat) (L : List Ent) (t : TypeId) (hok : ∀ e ∈ L, e.Ok w B) (hfar : L.Pairwise Ent.Far) :
    Parts (w.alloc (.cells (L.map Ent.val).toArray t)) B w.heap.size L.length (fun k => (L.getD k Ent.none_).adr) (fun k => (L.getD k Ent.none_).n) (fun k => (L.getD k Ent.none_).c) (fun k => (L.getD k Ent.none_).l) (fun k => (L.getD k Ent.none_).r) where
  at_ := fun k hk => by
    rw [World.cell?_alloc_at _ _ _ _ rfl]
    simp [List.getElem?_eq_getElem hk, List.getD_eq_getElem?_getD, Ent.val]
  size := fun k hk => by
    simp only [List.getD_eq_getElem?_getD, List.getElem?_eq_getElem hk, Option.getD_some]
    exact (hok _ (List.getElem_mem hk)).size
  wf := fun k hk => by
    simp only [List.getD_eq_getElem?_getD, List.getElem?_eq_getElem hk, Option.getD_some]
    exact (hok _ (List.getElem_mem hk)).wf
  lies := fun k hk => by
    simp only [List.getD_eq_getElem?_getD, List.getElem?_eq_getElem hk, Option.getD_some]
    rcases (hok _ (List.getElem_mem hk)).lies with ⟨h1, h2⟩ | ⟨g, h1, h2, h3⟩
    · exact .inl ⟨by rw [Ent.adr, h1]; rfl, h2⟩
    · have := block_lt h3
      exact .inr ⟨g, by rw [Ent.adr, h1]; rfl, h2, by omega, (Below.heap_alloc w _ g this).trans h3⟩
  apart := fun i k hi hk hne g h1 h2 => by
    simp only [List.getD_eq_getElem?_getD, List.getElem?_eq_getElem hi, List.getElem?_eq_getElem hk, Option.getD_some] at h1 h2
    have h1 := Ent.adr_some h1
    have h2 := Ent.adr_some h2
    rcases Nat.lt_or_gt_of_ne hne with h | h
    · exact List.pairwise_iff_getElem.1 hfar i k hi hk h g h1 h2
    · exact List.pairwise_iff_getElem.1 hfar k i hk hi h g h2 h1
  gl_lt := by simp

end Go.Proofs.Ytobhllcnljggiaa.W
namespace Go.Proofs.Ytobhllcnljggiaa.W
open Go.RowKit
set_option linter.unusedVariables false
/-- A slice that is nil or the beginning of a block, as an entry. -/
theorem Li.ent {w : World} {A : Option Addr} {m g B : Nat} {l r : List Int} (h : Li w A m g l r) (hm : l.length = m) (hw : ∀ x ∈ l, (Lit.int .u16 x).wf = true) (hB : B ≤ g) (hmm : m ≤ 70368744173568) :
    ∃ E : Ent, E.val = .slice A m m ∧ E.Ok w B ∧ (E.a = none ∨ E.a = some g) ∧ (A = none → E.a = none) := by
  rcases h with ⟨h1, h2⟩ | ⟨h1, h2⟩
  · subst h1 h2
    exact ⟨⟨none, 0, 0, l, r⟩, rfl, ⟨⟨Nat.le_refl _, by show 0 ≤ _; omega, hm⟩, hw, .inl ⟨rfl, rfl, rfl⟩⟩, .inl rfl, fun _ => rfl⟩
  · subst h1
    exact ⟨⟨some g, m, m, l, r⟩, rfl, ⟨⟨Nat.le_refl _, by show m ≤ _; omega, hm⟩, hw, .inr ⟨g, rfl, hB, h2⟩⟩, .inr rfl, fun h => by cases h⟩

end Go.Proofs.Ytobhllcnljggiaa.W
namespace Go.Proofs.Ytobhllcnljggiaa
open Go.RowKit
set_option linter.unusedVariables false
theorem refWords_odd (A : Option Addr) (n c : Nat) (w : World) (hb : n ≤ 1000000) (h : n % 2 = 1) :
    Calls Try.prog 83 #[.slice A n c] w (Errs 22 w) := by
  have h1 : ((n : Int) % 2 == 1) = true := by simp; omega
  clear h
  go_enter Try.func83, Try.ntmps83
  go_wp2
  go_ret2
  exact ⟨rfl, rfl⟩
set_option maxHeartbeats 1000000 in
theorem refBytes_any (A : Option Addr) (n c : Nat) (xs : List Int) (w : World) (hr : Row .u16 w w.heap.size A xs) (hn : xs.length = n) (hb : n ≤ 1000000) :
    Calls Try.prog 37 #[.slice A n c] w (Makes .u8 5 w (wbytes xs)) := by
  have hn' := Lib.hid hn
  clear hn
  go_enter Try.func37, Try.ntmps37
  go_wp2
  go_loopw [3, 4] (fun t i wr => ∃ k : Nat, k ≤ n ∧ i = .int .i64 k ∧ Own .u8 5 wr w.heap.size t (wbytes (xs.take k)) ∧ Below w.heap.size w wr) (fun _ i _ => n - (intOf i).toNat)
  case atStart => exact ⟨0, by omega, rfl, Own.nil _ _ _ _, Below.refl _ _⟩
  case round =>
    obtain ⟨k, hk, rfl, hown, hbel⟩ := hrel
    by_cases hlt : k < n
    · obtain ⟨b, o, rfl, hb1, hc1⟩ := (hr.below hbel).at_ (i := k) (by have := hn'.out; omega)
      have hwf := wf_u16 (hr.wf_at (i := k) (by have := hn'.out; omega))
      have hl : Hid ((wbytes (xs.take k)).length = 2 * k) := Lib.hid (by have := hn'.out; rw [wbytes_length]; simp; omega)
      have HT := Lib.hid (take_step xs k (by have := hn'.out; omega))
      have HS := wbytes_snoc (xs.take k) (nth xs k)
      have hsz := hbel.size
      obtain ⟨x, hx⟩ := Int.eq_ofNat_of_zero_le hwf.1
      rw [hx, Int.toNat_natCast, be_two, show ((x / 256 % 256 : Nat) : Int) = (x : Int) / 256 by omega, show ((x % 256 : Nat) : Int) = (x : Int) % 256 by omega] at HS
      have HS' := Lib.hid HS
      have HX := Lib.hid hx
      rw [hx] at hc1 hwf
      clear hx HS
      have hw1 : IntKind.u8.wrap ((x : Int) / 256) = (x : Int) / 256 := by rw [IntKind.wrap_u8]; omega
      have hw2 : IntKind.u8.wrap ((x : Int) % 256) = (x : Int) % 256 := by rw [IntKind.wrap_u8]; omega
      have one1 := Row.one .u8 wr 5 ((x : Int) / 256) (by have := wf_byte (x / 256) (by omega); rwa [show ((x / 256 : Nat) : Int) = (x : Int) / 256 by omega] at this)
      have wf2 : (Lit.int .u8 ((x : Int) % 256)).wf = true := by have := wf_byte (x % 256) (by omega); rwa [show ((x % 256 : Nat) : Int) = (x : Int) % 256 by omega] at this
      go_wp2_with (first
        | (at_builtin; refine wpList_append_row _ rfl _ _ 34 rfl w.heap.size .u8 5 1 Try.underlying34 info_u8 u3 (wbytes (xs.take k)) rfl (hown.alloc _) _ _ 1 1 [(x : Int) / 256] rfl one1 rfl (by rw [hl.out]; omega) (by rw [hl.out]; simp only [maxLen]; omega) (by simp; omega) ?_; intro v1 w1 hown1 hg1; have hbel1 := Below.own1 hbel hsz hown hg1; have hc2 := (hbel1.cell (p := ⟨b, o + k, none⟩) hb1).trans ((hbel.cell (p := ⟨b, o + k, none⟩) hb1).symm.trans hc1); have hsz1 := hbel1.size; clear hg1)
        | (at_builtin; refine wpList_append_row _ rfl _ _ 34 rfl w.heap.size .u8 5 1 Try.underlying34 info_u8 v1 (wbytes (xs.take k) ++ [(x : Int) / 256]) rfl (hown1.alloc _) _ _ 1 1 [(x : Int) % 256] rfl (Row.one .u8 w1 5 ((x : Int) % 256) wf2) rfl (by rw [List.length_append, hl.out]; simp; omega) (by rw [List.length_append, hl.out]; simp [maxLen]; omega) (by simp; omega) ?_; intro v2 w2 hown2 hg2; have hbel2 := Below.own1 hbel1 hsz1 hown1 hg2; clear hg2))
      rw [List.append_assoc, show [(x : Int) / 256] ++ [(x : Int) % 256] = [(x : Int) / 256, (x : Int) % 256] from rfl, ← HS'.out, ← HX.out, ← HT.out] at hown2
      go_roundw
      case rel => exact ⟨k + 1, by omega, by go_num, hown2, hbel2⟩
      case measure => simp [intOf]; omega
    · have hx : xs.take k = xs := List.take_of_length_le (by have := hn'.out; omega)
      rw [hx] at hown
      clear hx
      go_wp2
      go_ret
      exact ⟨_, rfl, hown, hbel⟩

/-- A call returns a pair: a list of words of its own, and no error. -/
def MakesW (w : World) (xs : List Int) (e : Ending) (w' : World) : Prop := ∃ v, e = .returned (.tuple #[v, .int .i64 0]) ∧ Own .u16 75 w' w.heap.size v xs ∧ Below w.heap.size w w'
set_option maxHeartbeats 1000000 in
theorem refWords_ok (A : Option Addr) (n c m : Nat) (ys : List Int) (w : World) (hr : Row .u8 w w.heap.size A ys) (hn : ys.length = n) (hb : n ≤ 1000000) (h : n = 2 * m) :
    Calls Try.prog 83 #[.slice A n c] w (MakesW w (wwords ys)) := by
  have hn' := Lib.hid hn
  have h2 : ((n : Int) % 2 == 1) = false := beq_false_of_ne (by omega)
  have hy2 : Hid (ys.length / 2 = m) := Lib.hid (by omega)
  have hm' := Lib.hid h
  have hm2 : m ≤ 500000 := by omega
  clear hn h
  go_enter Try.func83, Try.ntmps83
  go_wp2
  go_loopw [4, 5] (fun t i wr => ∃ k : Nat, k ≤ m ∧ i = .int .i64 (2 * k : Nat) ∧ Own .u16 75 wr w.heap.size t ((wwords ys).take k) ∧ Below w.heap.size w wr) (fun _ i _ => n - (intOf i).toNat)
  case atStart => exact ⟨0, by omega, rfl, Own.nil _ _ _ _, Below.refl _ _⟩
  case round =>
    obtain ⟨k, hk, rfl, hown, hbel⟩ := hrel
    by_cases hlt : k < m
    · obtain ⟨b, o, rfl, hb1, hc1⟩ := (hr.below hbel).at_ (i := 2 * k) (by have := hn'.out; have := hm'.out; omega)
      obtain ⟨b', o', e2, _, hc2⟩ := (hr.below hbel).at_ (i := 2 * k + 1) (by have := hn'.out; have := hm'.out; omega)
      injection e2 with e2
      injection e2 with e2 e3
      subst e2 e3
      have hwb := word_bound ys hr.1 k (by have := hy2.out; omega)
      have HT := wwords_take ys k (by have := hy2.out; omega)
      rw [word] at HT
      have HT' := Lib.hid HT
      clear HT
      have hl : Hid (((wwords ys).take k).length = k) := Lib.hid (by rw [List.length_take, wwords_length]; have := hy2.out; omega)
      have hsz := hbel.size
      have hk1 : 2 * k + 1 < n := by have := hm'.out; omega
      generalize nth ys (2 * k) = p at *
      generalize nth ys (2 * k + 1) = q at *
      have e1 : IntKind.u16.wrap (p * 256) = p * 256 := by rw [IntKind.wrap_u16]; omega
      have e2 : IntKind.u16.wrap (p * 256 + q) = p * 256 + q := by rw [IntKind.wrap_u16]; omega
      have e3 : IntKind.i64.wrap (2 * (k : Int) + 1) = 2 * (k : Int) + 1 := IntWalk.i64_in _ (by omega)
      have e4 : (2 * (k : Int) + 1).toNat = 2 * k + 1 := by omega
      have e5 : (2 * (k : Int)).toNat = 2 * k := by omega
      have e6 : 0 ≤ 2 * (k : Int) + 1 := by omega
      have e7 : 2 * (k : Int) + 1 < (n : Int) := by omega
      have e8 : 2 * (k : Int) < (n : Int) := by omega
      have e9 : (0 : Int) ≤ 2 * (k : Int) := by omega
      have e10 : IntKind.u16.wrap p = p := by rw [IntKind.wrap_u16]; omega
      have e11 : IntKind.u16.wrap q = q := by rw [IntKind.wrap_u16]; omega
      have hpq := wf_word16 (n := p * 256 + q) (by omega)
      have hown' : wr.ownsRow w.heap.size 75 1 u4 k (((wwords ys).take k).map (Value.int .u16)) := by have h0 := hown; unfold Own at h0; rwa [hl.out] at h0
      have HO := Lib.hid hown'
      clear hown'
      have hfar : some b ≠ u4.ownBlock := fun e => by have := (hown.block b e.symm).1; omega
      have lb : b < wr.heap.size := by omega
      obtain ⟨i0, hi0, hz0, hz1, hz2⟩ := info_parts W.info_u16
      go_wp2_with fail
      go_region_held3 (fun w' => w'.cell? ⟨b, o + 2 * k, none⟩ = some (.int .u8 p) ∧ w'.cell? ⟨b, o + (2 * k + 1), none⟩ = some (.int .u8 q))
        (first
          | go_keep
          | (go_split_ands
             refine ⟨?_, ?_⟩
             · (rw [hgrow.cell_far _ (by simp; omega) hfar]; assumption)
             · (rw [hgrow.cell_far _ (by simp; omega) hfar]; assumption)))
        ((refine step_append_lies _ (by rfl) _ _ _ (by rfl) w.heap.size 75 i0 _ 1 2 Try.underlying23 hi0 hz0 hz1 hz2 rfl (by omega) u4 k _ (by rfl) ((World.ownsRow.alloc HO.out _).drew)
            ⟨wr.heap.size, 0, none⟩ 1 1 [.int .u16 (p * 256 + q)] (by rfl) (by rfl) (World.news_of_block (cs := #[.int .u16 (p * 256 + q)]) (t := 75) (fr := (0, 0)) (heap_alloc_new wr _)) (by simp [Value.oneCell'])
            (by omega) (by simp only [maxLen]; omega) (by omega) (by simp; omega) (wr.heap.size + 1) (by simp) ?_; intro gg cap w1 hown1 hgrow hat hlt1))
      clear e1 e2 e3 e4 e5 e6 e7 e8 e9 e10 e11
      have hown2 : Own .u16 75 w1 w.heap.size (.slice (some ⟨gg, 0, none⟩) (k + 1) cap) ((wwords ys).take (k + 1)) := by
        rw [HT'.out]
        unfold Own
        rw [List.length_append, hl.out, List.map_append]
        exact hown1
      have hbel0 := hbel.alloc hsz (.cells #[.int .u16 (p * 256 + q)] 75)
      have hbel1 : Below w.heap.size w w1 := Below.grown (w := (wr.alloc (.cells #[.int .u16 (p * 256 + q)] 75)).drew) ⟨hbel0.os, hbel0.tape, hbel0.output, hbel0.size, hbel0.block⟩ hgrow (by simp; omega) (fun g e => (hown.block g e).1)
      clear hbel0
      clear hgrow hat hlt1 hown1 hown hbel
      go_wp2
      go_roundw
      case rel => exact ⟨k + 1, by omega, by go_num, hown2, hbel1⟩
      case measure => simp [intOf]; omega
    · obtain rfl : k = m := by omega
      have hx : (wwords ys).take k = wwords ys := List.take_of_length_le (by rw [wwords_length]; have := hy2.out; omega)
      rw [hx] at hown
      clear hx
      have h5 : ¬ ((2 * (k : Int) + 1) < (n : Int)) := by have := hm'.out; omega
      go_wp2
      go_ret2
      exact ⟨_, rfl, hown, hbel⟩
end Go.Proofs.Ytobhllcnljggiaa
namespace Go.Proofs.Ytobhllcnljggiaa.L
open Go.RowKit
set_option linter.unusedVariables false
set_option linter.unusedVariables false
/-- Rows that lie in blocks of their own, each known whole (or nil), their slices in the array of block gl. -/
structure Parts (w : World) (B gl m : Nat) (A : Nat → Option Addr) (n c : Nat → Nat) (l r : Nat → List Bool) : Prop where
  at_ : ∀ k, k < m → w.cell? ⟨gl, k, none⟩ = some (.slice (A k) (n k) (c k))
  size : ∀ k, k < m → n k ≤ c k ∧ c k ≤ 140737488355328 ∧ (l k).length = c k
  wf : ∀ k, k < m → ∀ x ∈ l k, (Lit.bool x).wf = true
  lies : ∀ k, k < m → (A k = none ∧ n k = 0 ∧ c k = 0) ∨ ∃ g, A k = some ⟨g, 0, none⟩ ∧ B ≤ g ∧ g ≠ gl ∧ w.heap[g]? = some (.cells (blk () (l k ++ r k)) 4 (0, 0))
  apart : ∀ i k, i < m → k < m → i ≠ k → ∀ g, A i = some ⟨g, 0, none⟩ → A k ≠ some ⟨g, 0, none⟩
  gl_lt : gl < w.heap.size

theorem Parts.row {w : World} {B gl m : Nat} {A : Nat → Option Addr} {n c : Nat → Nat} {l r : Nat → List Bool} (h : Parts w B gl m A n c l r) {k : Nat} (hk : k < m) :
    Row () w w.heap.size (A k) ((l k).take (n k)) ∧ ((l k).take (n k)).length = n k := by
  have hs := h.size k hk
  refine ⟨?_, by simp; omega⟩
  rcases h.lies k hk with ⟨ha, hn, hc⟩ | ⟨g, ha, _, _, hg⟩
  · rw [hn, List.take_zero]; exact Row.nil _ _ _ _
  · rw [ha]
    exact (Row.of_block hg _ (fun x hx => h.wf k hk x (List.mem_of_mem_take hx)) ((List.take_prefix _ _).trans (List.prefix_append _ _))).more (block_lt hg)
/-- A step that leaves all old blocks leaves the parts. -/
theorem Parts.below {w w' : World} {B gl m : Nat} {A : Nat → Option Addr} {n c : Nat → Nat} {l r : Nat → List Bool} (h : Parts w B gl m A n c l r) (hb : Below w.heap.size w w') : Parts w' B gl m A n c l r where
  at_ := fun k hk => (hb.cell (p := ⟨gl, k, none⟩) h.gl_lt).trans (h.at_ k hk)
  size := h.size
  wf := h.wf
  lies := fun k hk => by
    rcases h.lies k hk with h0 | ⟨g, ha, hB, hne, hg⟩
    · exact .inl h0
    · exact .inr ⟨g, ha, hB, hne, (hb.block g (block_lt hg)).trans hg⟩
  apart := h.apart
  gl_lt := Nat.lt_of_lt_of_le h.gl_lt hb.size
/-- One part is written over. -/
theorem Parts.spoil {w w' : World} {B gl m : Nat} {A : Nat → Option Addr} {n c : Nat → Nat} {l r : Nat → List Bool} (h : Parts w B gl m A n c l r) {i g : Nat} (hi : i < m) (ha : A i = some ⟨g, 0, none⟩)
    (hg : w'.heap[g]? = some (.cells (blk () (spoilL (c i) (l i) ++ r i)) 4 (0, 0))) (hgr : w.grownBy w' (some g)) : Parts w' B gl m A n c (fun k => if k = i then spoilL (c i) (l i) else l k) r where
  at_ := fun k hk => by
    rcases h.lies i hi with ⟨h0, _⟩ | ⟨g', ha', _, hne, _⟩
    · rw [ha] at h0; cases h0
    · rw [ha] at ha'
      injection ha' with ha'
      injection ha' with ha'
      subst ha'
      exact (World.cell?_of_block (hgr.block gl h.gl_lt (fun e => hne (by injection e with e; exact e.symm)))).trans (h.at_ k hk)
  size := fun k hk => by
    have := h.size k hk
    refine ⟨this.1, this.2.1, ?_⟩
    split
    · rename_i e; subst e; rw [spoilL_length]; exact this.2.2
    · exact this.2.2
  wf := fun k hk => by
    show ∀ x ∈ (if k = i then spoilL (c i) (l i) else l k), _
    split
    · exact spoilL_wf _ _ (h.wf i hi)
    · exact h.wf k hk
  lies := fun k hk => by
    by_cases e : k = i
    · subst e
      rcases h.lies k hi with ⟨h0, _⟩ | ⟨g', ha', hB, hne, _⟩
      · rw [ha] at h0; cases h0
      · rw [ha] at ha'
        injection ha' with ha'
        injection ha' with ha'
        subst ha'
        exact .inr ⟨g, ha, hB, hne, by rw [if_pos rfl]; exact hg⟩
    · rcases h.lies k hk with h0 | ⟨g', ha', hB, hne, hg'⟩
      · exact .inl h0
      · refine .inr ⟨g', ha', hB, hne, ?_⟩
        rw [if_neg e, hgr.block g' (block_lt hg') (fun e' => ?_)]
        · exact hg'
        · injection e' with e'
          subst e'
          exact h.apart k i hk hi e _ ha' ha
  apart := h.apart
  gl_lt := Nat.lt_of_lt_of_le h.gl_lt hgr.size

/-- A slice that is handed to ApartBools: nil, or the beginning of a block that is known whole. -/
structure Ent where
  a : Option Nat
  n : Nat
  c : Nat
  l : List Bool
  r : List Bool
def Ent.none_ : Ent := ⟨none, 0, 0, [], []⟩
def Ent.adr (e : Ent) : Option Addr := e.a.map fun g => ⟨g, 0, none⟩
def Ent.val (e : Ent) : Value := .slice e.adr e.n e.c
structure Ent.Ok (w : World) (B : Nat) (e : Ent) : Prop where
  size : e.n ≤ e.c ∧ e.c ≤ 140737488355328 ∧ e.l.length = e.c
  wf : ∀ x ∈ e.l, (Lit.bool x).wf = true
  lies : (e.a = none ∧ e.n = 0 ∧ e.c = 0) ∨ ∃ g, e.a = some g ∧ B ≤ g ∧ w.heap[g]? = some (.cells (blk () (e.l ++ e.r)) 4 (0, 0))
def Ent.Far (e e' : Ent) : Prop := ∀ g, e.a = some g → e'.a ≠ some g
theorem Ent.adr_some {e : Ent} {g : Nat} (h : e.adr = some ⟨g, 0, none⟩) : e.a = some g := by
  unfold Ent.adr at h
  cases ha : e.a with
  | none => rw [ha] at h; cases h
  | some q => rw [ha] at h; simp at h; rw [h]

theorem parts_of_list (w : World) (B : Nat) (L : List Ent) (t : TypeId) (hok : ∀ e ∈ L, e.Ok w B) (hfar : L.Pairwise Ent.Far) :
    Parts (w.alloc (.cells (L.map Ent.val).toArray t)) B w.heap.size L.length (fun k => (L.getD k Ent.none_).adr) (fun k => (L.getD k Ent.none_).n) (fun k => (L.getD k Ent.none_).c) (fun k => (L.getD k Ent.none_).l) (fun k => (L.getD k Ent.none_).r) where
  at_ := fun k hk => by
    rw [World.cell?_alloc_at _ _ _ _ rfl]
    simp [List.getElem?_eq_getElem hk, List.getD_eq_getElem?_getD, Ent.val]
  size := fun k hk => by
    simp only [List.getD_eq_getElem?_getD, List.getElem?_eq_getElem hk, Option.getD_some]
    exact (hok _ (List.getElem_mem hk)).size
  wf := fun k hk => by
    simp only [List.getD_eq_getElem?_getD, List.getElem?_eq_getElem hk, Option.getD_some]
    exact (hok _ (List.getElem_mem hk)).wf
  lies := fun k hk => by
    simp only [List.getD_eq_getElem?_getD, List.getElem?_eq_getElem hk, Option.getD_some]
    rcases (hok _ (List.getElem_mem hk)).lies with ⟨h1, h2⟩ | ⟨g, h1, h2, h3⟩
    · exact .inl ⟨by rw [Ent.adr, h1]; rfl, h2⟩
    · have := block_lt h3
      exact .inr ⟨g, by rw [Ent.adr, h1]; rfl, h2, by omega, (Below.heap_alloc w _ g this).trans h3⟩
  apart := fun i k hi hk hne g h1 h2 => by
    simp only [List.getD_eq_getElem?_getD, List.getElem?_eq_getElem hi, List.getElem?_eq_getElem hk, Option.getD_some] at h1 h2
    have h1 := Ent.adr_some h1
    have h2 := Ent.adr_some h2
    rcases Nat.lt_or_gt_of_ne hne with h | h
    · exact List.pairwise_iff_getElem.1 hfar i k hi hk h g h1 h2
    · exact List.pairwise_iff_getElem.1 hfar k i hk hi h g h2 h1
  gl_lt := by simp

end Go.Proofs.Ytobhllcnljggiaa.L
namespace Go.Proofs.Ytobhllcnljggiaa.L
open Go.RowKit
set_option linter.unusedVariables false
set_option linter.unusedVariables false
/-- A slice that is nil or the beginning of a block, as an entry. -/
theorem Li.ent {w : World} {A : Option Addr} {m g B : Nat} {l r : List Bool} (h : Li w A m g l r) (hm : l.length = m) (hw : ∀ x ∈ l, (Lit.bool x).wf = true) (hB : B ≤ g) (hmm : m ≤ 140737488351232) :
    ∃ E : Ent, E.val = .slice A m m ∧ E.Ok w B ∧ (E.a = none ∨ E.a = some g) ∧ (A = none → E.a = none) := by
  rcases h with ⟨h1, h2⟩ | ⟨h1, h2⟩
  · subst h1 h2
    exact ⟨⟨none, 0, 0, l, r⟩, rfl, ⟨⟨Nat.le_refl _, by show 0 ≤ _; omega, hm⟩, hw, .inl ⟨rfl, rfl, rfl⟩⟩, .inl rfl, fun _ => rfl⟩
  · subst h1
    exact ⟨⟨some g, m, m, l, r⟩, rfl, ⟨⟨Nat.le_refl _, by show m ≤ _; omega, hm⟩, hw, .inr ⟨g, rfl, hB, h2⟩⟩, .inr rfl, fun h => by cases h⟩

end Go.Proofs.Ytobhllcnljggiaa.L
namespace Go.Proofs.Ytobhllcnljggiaa
open Go.RowKit
set_option linter.unusedVariables false
theorem refNeed_any (n : Nat) (w : World) (h : n < 9223372036854775808) : Calls Try.prog 82 #[.int .i64 n] w fun e w' => e = .returned (.int .i64 (need n : Nat)) ∧ w = w' := by
  by_cases h8 : n % 8 = 0
  · have h1 : ¬ (0 < (n : Int) % 8) := by omega
    have e : Hid ((n : Int) / 8 = ((need n : Nat) : Int)) := Lib.hid (by unfold need; omega)
    clear h8
    go_enter Try.func82, Try.ntmps82
    go_wp2
    go_ret
    exact ⟨congrArg (fun x => Ending.returned (Value.int .i64 x)) e.out, rfl⟩
  · have h1 : 0 < (n : Int) % 8 := by omega
    have e : Hid ((n : Int) / 8 + 1 = ((need n : Nat) : Int)) := Lib.hid (by unfold need; omega)
    clear h8
    go_enter Try.func82, Try.ntmps82
    go_wp2
    go_ret
    exact ⟨congrArg (fun x => Ending.returned (Value.int .i64 x)) e.out, rfl⟩
theorem refWeight_any (r : Nat) (w : World) (h : r < 8) : Calls Try.prog 64 #[.int .i64 r] w fun e w' => e = .returned (.int .i64 (2 ^ r : Nat)) ∧ w' = w := by
  go_enter Try.func64, Try.ntmps64
  go_wp2
  go_loop [3, 4] (fun t i => ∃ k : Nat, k ≤ r ∧ i = .int .i64 k ∧ t = .int .i64 (2 ^ k : Nat)) (fun _ i => r - (intOf i).toNat)
  case atStart => exact ⟨0, by omega, rfl, rfl⟩
  case round =>
    obtain ⟨k, hk, rfl, rfl⟩ := hrel
    by_cases hlt : k < r
    · have hp : 2 ^ k ≤ 128 := Nat.pow_le_pow_right (n := 2) (by omega) (show k ≤ 7 by omega)
      have hs := Lib.hid (Nat.pow_succ 2 k)
      generalize 2 ^ k = q at *
      go_wp2
      go_round
      case rel => exact ⟨k + 1, by omega, by go_num, by rw [hs.out]; congr 1; omega⟩
      case measure => simp [intOf]; omega
    · obtain rfl : k = r := by omega
      go_wp2
      go_ret
      exact ⟨rfl, rfl⟩
end Go.Proofs.Ytobhllcnljggiaa
namespace Go.Proofs.Ytobhllcnljggiaa
open Go.RowKit
set_option linter.unusedVariables false
theorem need_more (k : Nat) (h : k % 8 = 0) : need (k + 1) = need k + 1 := by unfold need; omega
theorem need_same (k : Nat) (h : k % 8 ≠ 0) : need (k + 1) = need k := by unfold need; omega
theorem pk_grow (bs : List Bool) (k : Nat) (h : k % 8 = 0) : pk (bs.take k) (need k) ++ [0] = pk (bs.take k) (need (k + 1)) := by
  rw [need_more k h, pk, pk, List.range_succ, List.map_append, List.map_singleton]
  congr 2
  rw [bsum_stop (bs.take k) (need k) 0 8 (by omega) (fun r _ => nth_take_off _ _ _ (by unfold need; omega))]
  rfl
end Go.Proofs.Ytobhllcnljggiaa
namespace Go.Proofs.Ytobhllcnljggiaa
open Go.RowKit
set_option linter.unusedVariables false
set_option maxHeartbeats 1000000 in
theorem refBits_any (A : Option Addr) (n c : Nat) (bs : List Bool) (w : World) (hr : L.Row () w w.heap.size A bs) (hn : bs.length = n) (hb : n ≤ 1000000) :
    Calls Try.prog 35 #[.slice A n c] w (Makes .u8 5 w (pk bs (need n))) := by
  have hn' := Lib.hid hn
  clear hn
  go_enter Try.func35, Try.ntmps35
  go_wp2
  go_loopw [3, 4] (fun t i wr => ∃ k : Nat, k ≤ n ∧ i = .int .i64 k ∧ Own .u8 5 wr w.heap.size t (pk (bs.take k) (need k)) ∧ Below w.heap.size w wr) (fun _ i _ => n - (intOf i).toNat)
  case atStart => exact ⟨0, by omega, rfl, Own.nil _ _ _ _, Below.refl _ _⟩
  case round =>
    obtain ⟨k, hk, rfl, hown, hbel⟩ := hrel
    by_cases hlt : k < n
    · obtain ⟨b, o, rfl, hb1, hc1⟩ := (hr.below hbel).at_ (i := k) (by have := hn'.out; omega)
      obtain ⟨v, hv⟩ : ∃ v, Hid (L.nth bs k = v) := ⟨_, Lib.hid rfl⟩
      rw [hv.out] at hc1
      have hsz := hbel.size
      have hnl : Hid ((pk (bs.take k) (need k)).length ≤ 1000000) := Lib.hid (by rw [pk_length]; unfold need; omega)
      by_cases h8 : k % 8 = 0
      · have e8 : ((k : Int) % 8 == 0) = true := by simp; omega
        have one1 := Row.one .u8 wr 5 0 (by decide)
        have hgr := Lib.hid (pk_grow bs k h8)
        clear h8
        cases v with
        | false =>
          have hoff := Lib.hid (pk_off bs k (need (k + 1)) hv.out)
          go_wp2_with (at_builtin; refine wpList_append_row _ rfl _ _ 34 rfl w.heap.size .u8 5 1 Try.underlying34 info_u8 u3 _ rfl (hown.alloc _) _ _ 1 1 [0] rfl one1 rfl (by have := hnl.out; omega) (by have := hnl.out; simp only [maxLen]; omega) (by simp; omega) ?_; intro v1 w1 hown1 hg1; have hbel1 := Below.own1 hbel hsz hown hg1; have hc2 := (hbel1.cell (p := ⟨b, o + k, none⟩) hb1).trans ((hbel.cell (p := ⟨b, o + k, none⟩) hb1).symm.trans hc1); rw [hgr.out, ← hoff.out] at hown1; clear hg1)
          go_roundw
          case rel => exact ⟨k + 1, by omega, by go_num, hown1, hbel1⟩
          case measure => simp [intOf]; omega
        | true =>
          go_wp2_with (at_builtin; refine wpList_append_row _ rfl _ _ 34 rfl w.heap.size .u8 5 1 Try.underlying34 info_u8 u3 _ rfl (hown.alloc _) _ _ 1 1 [0] rfl one1 rfl (by have := hnl.out; omega) (by have := hnl.out; simp only [maxLen]; omega) (by simp; omega) ?_; intro v1 w1 hown1 hg1; have hbel1 := Below.own1 hbel hsz hown hg1; have hc9 := (hbel1.cell (p := ⟨b, o + k, none⟩) hb1).trans ((hbel.cell (p := ⟨b, o + k, none⟩) hb1).symm.trans hc1); rw [hgr.out] at hown1; clear hg1)
          have hk8 : k / 8 < need (k + 1) := by unfold need; omega
          have hlow := pk_low bs k
          have hpl : (pk (bs.take k) (need (k + 1))).length = need (k + 1) := pk_length _ _
          obtain ⟨g, cap, rfl, hg0, hg1, hg2, hcs, hfz, hset⟩ := hown1.cells (by rw [hpl]; omega)
          have hcap : k / 8 < cap := by rw [hpl] at hg2; omega
          have hc2 := hcs (k / 8) (by rw [hpl]; exact hk8)
          rw [pk_nth _ _ _ hk8] at hc2
          have hfz := hfz (k / 8)
          have hnew := hset w1.drew (k / 8) ((bsum (bs.take k) (k / 8) 8 + 2 ^ (k % 8) : Nat) : Int) rfl (by rw [hpl]; exact hk8)
          rw [pk_on bs k _ hk8 hv.out] at hnew
          have HN := Lib.hid hnew
          have belD : Below w.heap.size w w1.drew := ⟨hbel1.os, hbel1.tape, hbel1.output, hbel1.size, hbel1.block⟩
          have bel2 := belD.setCell hg0 (p := ⟨g, k / 8, none⟩) (.int .u8 ((bsum (bs.take k) (k / 8) 8 + 2 ^ (k % 8) : Nat) : Int))
          have hp8 : 2 ^ (k % 8) ≤ 128 := Nat.pow_le_pow_right (n := 2) (by omega) (show k % 8 ≤ 7 by omega)
          have hlt8 : bsum (bs.take k) (k / 8) 8 + 2 ^ (k % 8) < 256 := by omega
          rw [hpl] at *
          have hln : k / 8 < need (k + 1) := hk8
          clear hcs hset belD hnew hlow hg2 hown1
          generalize bsum (bs.take k) (k / 8) 8 = a at *
          obtain ⟨r, hr8⟩ : ∃ r, k % 8 = r := ⟨_, rfl⟩
          obtain ⟨j, hj⟩ : ∃ j, k / 8 = j := ⟨_, rfl⟩
          have e6 : (k : Int) % 8 = ((r : Nat) : Int) := by omega
          have e7 : (k : Int).tmod 8 = ((r : Nat) : Int) := by rw [Int.tmod_eq_emod_of_nonneg (by omega)]; omega
          have hr9 : r < 8 := by omega
          have e1 : (k : Int) / 8 = (j : Int) := by omega
          have e3 : (k : Int).tdiv 8 = (j : Int) := by rw [Int.tdiv_eq_ediv_of_nonneg (by omega)]; omega
          have e4 : (0 : Int) ≤ (j : Int) := by omega
          have e9 : IntKind.i64.wrap (j : Int) = (j : Int) := IntWalk.i64_in _ (by omega)
          have e10 : IntKind.i64.wrap (r : Int) = (r : Int) := IntWalk.i64_in _ (by omega)
          rw [hr8] at hp8 hlt8 HN bel2
          rw [hj] at hc2 hfz HN bel2 hk8 hln hcap
          clear hr8 hj
          obtain ⟨d, hd⟩ : ∃ d, Hid (need (k + 1) = d) := ⟨_, Lib.hid rfl⟩
          rw [hd.out] at HN hk8 hln ⊢
          have e2 : (j : Int) < (d : Int) := by omega
          obtain ⟨q, hq⟩ : ∃ q : Nat, 2 ^ r = q := ⟨_, rfl⟩
          have HQ := Lib.hid hq
          rw [hq] at hp8 hlt8 HN bel2
          clear hq
          have e5 : IntKind.u8.wrap (q : Int) = (q : Int) := by rw [IntKind.wrap_u8]; omega
          have e8 : IntKind.u8.wrap ((a : Int) + (q : Int)) = ((a + q : Nat) : Int) := by rw [IntKind.wrap_u8]; omega
          go_wp2
          go_region_law ((go_simp; go_at_call 64; refine (refWeight_any r _ hr9).mono ?_; rintro e w' ⟨rfl, rfl⟩; rw [HQ.out]))
          all_goals
            go_wp2
            go_roundw
            case rel => exact ⟨k + 1, by omega, by go_num, by rw [hd.out]; exact HN.out, bel2⟩
            case measure => simp [intOf]; omega
      · have e8 : ((k : Int) % 8 == 0) = false := beq_false_of_ne (by omega)
        rw [← need_same k h8] at hown
        clear h8
        cases v with
        | false =>
          have hoff := Lib.hid (pk_off bs k (need (k + 1)) hv.out)
          rw [← hoff.out] at hown
          go_wp2
          go_roundw
          case rel => exact ⟨k + 1, by omega, by go_num, hown, hbel⟩
          case measure => simp [intOf]; omega
        | true =>
          have hk8 : k / 8 < need (k + 1) := by unfold need; omega
          have hlow := pk_low bs k
          have hpl : (pk (bs.take k) (need (k + 1))).length = need (k + 1) := pk_length _ _
          obtain ⟨g, cap, rfl, hg0, hg1, hg2, hcs, hfz, hset⟩ := hown.cells (by rw [hpl]; omega)
          have hcap : k / 8 < cap := by rw [hpl] at hg2; omega
          have hc2 := hcs (k / 8) (by rw [hpl]; exact hk8)
          rw [pk_nth _ _ _ hk8] at hc2
          have hfz := hfz (k / 8)
          have hnew := hset wr.drew (k / 8) ((bsum (bs.take k) (k / 8) 8 + 2 ^ (k % 8) : Nat) : Int) rfl (by rw [hpl]; exact hk8)
          rw [pk_on bs k _ hk8 hv.out] at hnew
          have HN := Lib.hid hnew
          have belD : Below w.heap.size w wr.drew := ⟨hbel.os, hbel.tape, hbel.output, hbel.size, hbel.block⟩
          have bel2 := belD.setCell hg0 (p := ⟨g, k / 8, none⟩) (.int .u8 ((bsum (bs.take k) (k / 8) 8 + 2 ^ (k % 8) : Nat) : Int))
          have hp8 : 2 ^ (k % 8) ≤ 128 := Nat.pow_le_pow_right (n := 2) (by omega) (show k % 8 ≤ 7 by omega)
          have hlt8 : bsum (bs.take k) (k / 8) 8 + 2 ^ (k % 8) < 256 := by omega
          rw [hpl] at *
          have hln : k / 8 < need (k + 1) := hk8
          clear hcs hset belD hnew hlow hg2 hown
          generalize bsum (bs.take k) (k / 8) 8 = a at *
          obtain ⟨r, hr8⟩ : ∃ r, k % 8 = r := ⟨_, rfl⟩
          obtain ⟨j, hj⟩ : ∃ j, k / 8 = j := ⟨_, rfl⟩
          have e6 : (k : Int) % 8 = ((r : Nat) : Int) := by omega
          have e7 : (k : Int).tmod 8 = ((r : Nat) : Int) := by rw [Int.tmod_eq_emod_of_nonneg (by omega)]; omega
          have hr9 : r < 8 := by omega
          have e1 : (k : Int) / 8 = (j : Int) := by omega
          have e3 : (k : Int).tdiv 8 = (j : Int) := by rw [Int.tdiv_eq_ediv_of_nonneg (by omega)]; omega
          have e4 : (0 : Int) ≤ (j : Int) := by omega
          have e9 : IntKind.i64.wrap (j : Int) = (j : Int) := IntWalk.i64_in _ (by omega)
          have e10 : IntKind.i64.wrap (r : Int) = (r : Int) := IntWalk.i64_in _ (by omega)
          rw [hr8] at hp8 hlt8 HN bel2
          rw [hj] at hc2 hfz HN bel2 hk8 hln hcap
          clear hr8 hj
          obtain ⟨d, hd⟩ : ∃ d, Hid (need (k + 1) = d) := ⟨_, Lib.hid rfl⟩
          rw [hd.out] at HN hk8 hln ⊢
          have e2 : (j : Int) < (d : Int) := by omega
          obtain ⟨q, hq⟩ : ∃ q : Nat, 2 ^ r = q := ⟨_, rfl⟩
          have HQ := Lib.hid hq
          rw [hq] at hp8 hlt8 HN bel2
          clear hq
          have e5 : IntKind.u8.wrap (q : Int) = (q : Int) := by rw [IntKind.wrap_u8]; omega
          have e8 : IntKind.u8.wrap ((a : Int) + (q : Int)) = ((a + q : Nat) : Int) := by rw [IntKind.wrap_u8]; omega
          go_wp2
          go_region_law ((go_simp; go_at_call 64; refine (refWeight_any r _ hr9).mono ?_; rintro e w' ⟨rfl, rfl⟩; rw [HQ.out]))
          all_goals
            go_wp2
            go_roundw
            case rel => exact ⟨k + 1, by omega, by go_num, by rw [hd.out]; exact HN.out, bel2⟩
            case measure => simp [intOf]; omega
    · obtain rfl : k = n := by omega
      have hx : bs.take k = bs := List.take_of_length_le (by have := hn'.out; omega)
      rw [hx] at hown
      clear hx
      go_wp2
      go_ret
      exact ⟨_, rfl, hown, hbel⟩
end Go.Proofs.Ytobhllcnljggiaa
namespace Go.Proofs.Ytobhllcnljggiaa
open Go.RowKit
set_option linter.unusedVariables false

/-- A right answer that is no exception has no list but its own. -/
theorem rep_stray {q : Req} {r : Rep} (h : chkR q r = 0) (hx : r.x = 0) : (¬ (q.c = 1 ∨ q.c = 2) → r.on.length = 0) ∧ (¬ (q.c = 3 ∨ q.c = 4) → r.set.length = 0) ∧ (q.c ≠ 20 → r.fs.length = 0) := by
  unfold chkR at h
  by_cases hk : chkQ q ≠ 0
  · rw [if_pos hk] at h; exact absurd h hk
  · rw [if_neg hk, if_neg (show ¬ r.x ≠ 0 by simp [hx])] at h
    by_cases hs : strayB q.c r.on.length r.set.length r.fs.length = true
    · rw [if_pos hs] at h; cases h
    · simp only [strayB, anyB, Bool.or_eq_true, decide_eq_true_eq, not_or, Nat.not_lt, Nat.le_zero] at hs
      obtain ⟨⟨h1, h2⟩, h3⟩ := hs
      refine ⟨fun g => ?_, fun g => ?_, fun g => ?_⟩
      · rwa [if_neg g] at h1
      · rwa [if_neg g] at h2
      · rwa [if_neg g] at h3
theorem Row.more2 {k : IntKind} {w w' : World} {A : Option Addr} {xs : List Int} {o1 o2 : Obj} (h : Row k w w.heap.size A xs) (t : TB w w.heap.size o1 o2 w') : Row k w' w'.heap.size A xs := (h.below t.bel).more t.bel.size
theorem L.Row.more2 {w w' : World} {A : Option Addr} {xs : List Bool} {o1 o2 : Obj} (h : L.Row () w w.heap.size A xs) (t : TB w w.heap.size o1 o2 w') : L.Row () w' w'.heap.size A xs := (h.below t.bel).more t.bel.size
theorem Own.view2 {k : IntKind} {e : TypeId} {w : World} {base : Nat} {v : Value} {xs : List Int} (h : Own k e w base v xs) (hw : ∀ x ∈ xs, (Lit.int k x).wf = true) : ∃ A n c, v = .slice A n c ∧ Row k w w.heap.size A xs ∧ xs.length = n := by
  obtain ⟨A, c, e, hr, _⟩ := h.row hw
  exact ⟨A, _, c, e, hr, rfl⟩

set_option maxHeartbeats 4000000 in
set_option maxRecDepth 100000 in
theorem refPutR_words (c a n : Int) (on : List Bool) (set fl : List Int) (x : Int) (ron : List Bool) (rset : List Int) (fs : List (List Int)) (Ao As Ap Bo Bs Bf : Option Addr) (lo ls lp co cs cp mo ms mf eo es ef : Nat) (w : World) (h : Asked w w.heap.size (⟨c, a, n, on, set, fl⟩ : Req) Ao As Ap lo ls lp) (hr : Repd w w.heap.size (⟨x, ron, rset, fs⟩ : Rep) Bo Bs Bf mo ms mf) (hb : lp ≤ 100000) (hk : chkR (⟨c, a, n, on, set, fl⟩ : Req) (⟨x, ron, rset, fs⟩ : Rep) = 0) (hx : x = 0) (hc : c = 3 ∨ c = 4) :
    Calls Try.prog 12 #[.agg #[.int .i64 c, .int .i64 a, .int .i64 n, .slice Ao lo co, .slice As ls cs, .slice Ap lp cp], .agg #[.int .i64 x, .slice Bo mo eo, .slice Bs ms es, .slice Bf mf ef]] w (GivesOwn w (putR (⟨c, a, n, on, set, fl⟩ : Req) (⟨x, ron, rset, fs⟩ : Rep)) 0) := by
  have t0 := TB.new2 w #[.int .i64 c, .int .i64 a, .int .i64 n, .slice Ao lo co, .slice As ls cs, .slice Ap lp cp] #[.int .i64 x, .slice Bo mo eo, .slice Bs ms es, .slice Bf mf ef] 26 29
  have hsz : w.heap.size ≤ ((w.alloc (.cells #[.int .i64 c, .int .i64 a, .int .i64 n, .slice Ao lo co, .slice As ls cs, .slice Ap lp cp] 26)).alloc (.cells #[.int .i64 x, .slice Bo mo eo, .slice Bs ms es, .slice Bf mf ef] 29)).heap.size := t0.bel.size
  have H := Lib.hid ((h.below t0.bel).more hsz)
  have HR := Lib.hid ((hr.below t0.bel).more hsz)
  have HC := Lib.hid (refRp_any (⟨c, a, n, on, set, fl⟩ : Req) (⟨x, ron, rset, fs⟩ : Rep) Ao As Ap Bo Bs Bf lo ls lp co cs cp mo ms mf eo es ef _ H.out HR.out hb)
  rw [hk] at HC
  obtain ⟨q1, q2, q3⟩ := rep_stray hk hx
  have hm := rep_words hk hx hc
  simp only at q1 q2 q3 hm
  have hcr := mm_le _ (chk_code (chkR_zero hk hx).1)
  simp only at hcr
  obtain ⟨L, hL⟩ : ∃ L, Hid (wbytes rset = L) := ⟨_, Lib.hid rfl⟩
  have HLEN : Hid (rset.length = ms) := Lib.hid hr.ms
  have hlen : ms ≤ 125 := by have := HLEN.out; omega
  have hLn : L.length ≤ 250 := by rw [← hL.out]; rw [wbytes_length, HLEN.out]; omega
  have HP : Hid (putR (⟨c, a, n, on, set, fl⟩ : Req) (⟨x, ron, rset, fs⟩ : Rep) = c :: (L.length : Int) :: L) := Lib.hid (by
    unfold putR formR
    rw [if_neg (show ¬ chkR (⟨c, a, n, on, set, fl⟩ : Req) (⟨x, ron, rset, fs⟩ : Rep) ≠ 0 by rw [hk]; simp), if_neg (show ¬ x ≠ 0 by rw [hx]; simp), if_neg (show ¬ (c = 1 ∨ c = 2) by omega), if_pos hc]
    rw [← hL.out, wbytes_length]; congr 2)
  have HWF : Hid (∀ y ∈ L, (Lit.int .u8 y).wf = true) := Lib.hid (by rw [← hL.out]; exact wbytes_wf _)
  have HSET := Lib.hid hr.set
  have hmf : mf = 0 := by have h1 := hr.mf; have h2 := q3 (by omega); simp only at h1; omega
  have kB : Hid (clB c = false) := Lib.hid (by unfold clB; simp; omega)
  have kW : Hid (clW c = true) := Lib.hid (by unfold clW; simp; omega)
  have kF : Hid (clF c = false) := Lib.hid (by unfold clF; simp; omega)
  have u1 : IntKind.u8.wrap c = c := by rw [IntKind.wrap_u8]; omega
  subst hx hmf
  clear h hr hk q1 q2 q3 hc hm
  go_enter Try.func12, Try.ntmps12
  go_wp2_with fail
  refine HC.out.mono ?_
  rintro e w1 ⟨rfl, b1⟩
  have t1 := t0.below b1
  clear b1 t0 HC hsz
  obtain ⟨d0, d1, d2, d3, _⟩ := t1.c4
  obtain ⟨r0, r1, r2, r3, r4, r5, _⟩ := t1.r6
  go_wp2_with fail
  refine (refKindBits_any c a n Ao As Ap lo co ls cs lp cp _).mono ?_
  rintro e w1b ⟨rfl, b1b⟩
  rw [kB.out]
  have t1b := t1.below b1b
  clear d0 d1 d2 d3 r0 r1 r2 r3 r4 r5 t1 b1b
  obtain ⟨d0, d1, d2, d3, _⟩ := t1b.c4
  obtain ⟨r0, r1, r2, r3, r4, r5, _⟩ := t1b.r6
  go_wp2_with fail
  refine (refWords_kind c a n Ao As Ap lo co ls cs lp cp _).mono ?_
  rintro e w2 ⟨rfl, b2⟩
  rw [kW.out]
  have t2 := t1b.below b2
  clear d0 d1 d2 d3 r0 r1 r2 r3 r4 r5 t1b b2
  obtain ⟨d0, d1, d2, d3, _⟩ := t2.c4
  obtain ⟨r0, r1, r2, r3, r4, r5, _⟩ := t2.r6
  go_wp2_with fail
  refine (refBytes_any Bs ms es rset _ (HSET.out.more2 t2) HLEN.out (by omega)).mono ?_
  rintro e w3 ⟨v3, rfl, own3, b3⟩
  rw [hL.out] at own3
  have t3 := t2.below b3
  have own3 := own3.mono (base' := w.heap.size) (by have := t2.lt; omega)
  clear d0 d1 d2 d3 r0 r1 r2 r3 r4 r5 t2 b3
  obtain ⟨d0, d1, d2, d3, _⟩ := t3.c4
  obtain ⟨r0, r1, r2, r3, r4, r5, _⟩ := t3.r6
  have t4 := t3
  have own4 := own3
  clear t3 own3
  obtain ⟨A4, n4, c4, hv4⟩ := own_form own4
  subst hv4
  go_wp2
  go_loopw [7, 8] (fun v i wr => i = .int .i64 0 ∧ v = .slice A4 n4 c4 ∧ Own .u8 5 wr w.heap.size (.slice A4 n4 c4) L ∧ TB w w.heap.size (.cells #[.int .i64 c, .int .i64 a, .int .i64 n, .slice Ao lo co, .slice As ls cs, .slice Ap lp cp] 26 (0, 0)) (.cells #[.int .i64 0, .slice Bo mo eo, .slice Bs ms es, .slice Bf 0 ef] 29 (0, 0)) wr) (fun _ i _ => 0)
  case atStart => exact ⟨rfl, rfl, own4, t4⟩
  case round =>
    clear t4 own4
    obtain ⟨rfl, rfl, own5, t5⟩ := hrel
    clear d0 d1 d2 d3 r0 r1 r2 r3 r4 r5
    obtain ⟨d0, d1, d2, d3, _⟩ := t5.c4
    obtain ⟨r0, r1, r2, r3, r4, r5, _⟩ := t5.r6
    go_wp2_with fail
    refine (refKindBits_any c a n Ao As Ap lo co ls cs lp cp _).mono ?_
    rintro e w6 ⟨rfl, b6⟩
    rw [kB.out]
    have t6 := t5.below b6
    have own6 := own5.below b6 (Nat.le_refl _)
    clear d0 d1 d2 d3 r0 r1 r2 r3 r4 r5 t5 b6 own5
    obtain ⟨d0, d1, d2, d3, _⟩ := t6.c4
    obtain ⟨r0, r1, r2, r3, r4, r5, _⟩ := t6.r6
    go_wp2_with fail
    refine (refWords_kind c a n Ao As Ap lo co ls cs lp cp _).mono ?_
    rintro e w7 ⟨rfl, b7⟩
    rw [kW.out]
    have t7 := t6.below b7
    have own7 := own6.below b7 (Nat.le_refl _)
    clear d0 d1 d2 d3 r0 r1 r2 r3 r4 r5 t6 b7 own6
    obtain ⟨d0, d1, d2, d3, _⟩ := t7.c4
    obtain ⟨r0, r1, r2, r3, r4, r5, _⟩ := t7.r6
    have hsz7 := t7.bel.size
    have hlt7 := t7.lt
    obtain ⟨hrow7, hlen7⟩ : Row .u8 w7 w7.heap.size A4 L ∧ L.length = n4 := by
      obtain ⟨A, n, c, e, r, l⟩ := own7.view2 HWF.out
      injection e with e1 e2 e3
      subst e1 e2 e3
      exact ⟨r, l⟩
    have R7 := Lib.hid (hrow7.alloc (Nat.le_refl _) (.cells (blk .u8 [c, (n4 : Int)]) 5))
    have L7 := Lib.hid hlen7
    have hn4 : n4 ≤ 250 := by omega
    have e2 : IntKind.u8.wrap (n4 : Int) = n4 := by rw [IntKind.wrap_u8]; omega
    have hown := Own.laid (k := .u8) (base := w.heap.size) (n := 2) (heap_alloc_new w7 (.cells (blk .u8 [c, (n4 : Int)]) 5)) hsz7 (show [c, (n4 : Int)].length = 2 from rfl) (by simp [maxLen])
    have belA := t7.bel.alloc hsz7 (.cells (blk .u8 [c, (n4 : Int)]) 5)
    have hsA : w.heap.size ≤ (w7.alloc (.cells (blk .u8 [c, (n4 : Int)]) 5)).heap.size := by simp; omega
    obtain ⟨g7, hg7⟩ : ∃ g, w7.heap.size = g := ⟨_, rfl⟩
    rw [hg7] at hown
    clear hrow7 hlen7
    go_wp2_with (at_builtin; refine wpList_append_row _ rfl (.tmp 96) (.tmp 97) 34 rfl w.heap.size .u8 5 1 Try.underlying34 info_u8 (.slice (some ⟨g7, 0, none⟩) 2 2) [c, (n4 : Int)] rfl hown _ _ n4 c4 L rfl R7.out L7.out (by simp; omega) (by simp [maxLen]; omega) hsA ?_; intro v1 w8 hown8 hg8)
    go_ret2
    exact ⟨_, rfl, by rw [HP.out, L7.out]; exact hown8, Below.own belA hsA hown hg8⟩

set_option maxHeartbeats 4000000 in
set_option maxRecDepth 100000 in
theorem refPutR_bits (c a n : Int) (on : List Bool) (set fl : List Int) (x : Int) (ron : List Bool) (rset : List Int) (fs : List (List Int)) (Ao As Ap Bo Bs Bf : Option Addr) (lo ls lp co cs cp mo ms mf eo es ef : Nat) (w : World) (h : Asked w w.heap.size (⟨c, a, n, on, set, fl⟩ : Req) Ao As Ap lo ls lp) (hr : Repd w w.heap.size (⟨x, ron, rset, fs⟩ : Rep) Bo Bs Bf mo ms mf) (hb : lp ≤ 100000) (hk : chkR (⟨c, a, n, on, set, fl⟩ : Req) (⟨x, ron, rset, fs⟩ : Rep) = 0) (hx : x = 0) (hc : c = 1 ∨ c = 2) :
    Calls Try.prog 12 #[.agg #[.int .i64 c, .int .i64 a, .int .i64 n, .slice Ao lo co, .slice As ls cs, .slice Ap lp cp], .agg #[.int .i64 x, .slice Bo mo eo, .slice Bs ms es, .slice Bf mf ef]] w (GivesOwn w (putR (⟨c, a, n, on, set, fl⟩ : Req) (⟨x, ron, rset, fs⟩ : Rep)) 0) := by
  have t0 := TB.new2 w #[.int .i64 c, .int .i64 a, .int .i64 n, .slice Ao lo co, .slice As ls cs, .slice Ap lp cp] #[.int .i64 x, .slice Bo mo eo, .slice Bs ms es, .slice Bf mf ef] 26 29
  have hsz : w.heap.size ≤ ((w.alloc (.cells #[.int .i64 c, .int .i64 a, .int .i64 n, .slice Ao lo co, .slice As ls cs, .slice Ap lp cp] 26)).alloc (.cells #[.int .i64 x, .slice Bo mo eo, .slice Bs ms es, .slice Bf mf ef] 29)).heap.size := t0.bel.size
  have H := Lib.hid ((h.below t0.bel).more hsz)
  have HR := Lib.hid ((hr.below t0.bel).more hsz)
  have HC := Lib.hid (refRp_any (⟨c, a, n, on, set, fl⟩ : Req) (⟨x, ron, rset, fs⟩ : Rep) Ao As Ap Bo Bs Bf lo ls lp co cs cp mo ms mf eo es ef _ H.out HR.out hb)
  rw [hk] at HC
  obtain ⟨q1, q2, q3⟩ := rep_stray hk hx
  have hm := rep_bits hk hx hc
  simp only at q1 q2 q3 hm
  have hcr := mm_le _ (chk_code (chkR_zero hk hx).1)
  simp only at hcr
  obtain ⟨L, hL⟩ : ∃ L, Hid (pk ron (need mo) = L) := ⟨_, Lib.hid rfl⟩
  have HLEN : Hid (ron.length = mo) := Lib.hid hr.mo
  have hlen : mo ≤ 2000 := by have := HLEN.out; omega
  have hLn : L.length ≤ 250 := by rw [← hL.out]; rw [pk_length]; unfold need; omega
  have HP : Hid (putR (⟨c, a, n, on, set, fl⟩ : Req) (⟨x, ron, rset, fs⟩ : Rep) = c :: (L.length : Int) :: L) := Lib.hid (by
    unfold putR formR
    rw [if_neg (show ¬ chkR (⟨c, a, n, on, set, fl⟩ : Req) (⟨x, ron, rset, fs⟩ : Rep) ≠ 0 by rw [hk]; simp), if_neg (show ¬ x ≠ 0 by rw [hx]; simp), if_pos hc]
    rw [← hL.out, HLEN.out, pk_length])
  have HWF : Hid (∀ y ∈ L, (Lit.int .u8 y).wf = true) := Lib.hid (by rw [← hL.out]; exact pk_wf _ _)
  have HON := Lib.hid hr.on
  have hmf : mf = 0 := by have h1 := hr.mf; have h2 := q3 (by omega); simp only at h1; omega
  have kB : Hid (clB c = true) := Lib.hid (by unfold clB; simp; omega)
  have kW : Hid (clW c = false) := Lib.hid (by unfold clW; simp; omega)
  have kF : Hid (clF c = false) := Lib.hid (by unfold clF; simp; omega)
  have u1 : IntKind.u8.wrap c = c := by rw [IntKind.wrap_u8]; omega
  subst hx hmf
  clear h hr hk q1 q2 q3 hc hm
  go_enter Try.func12, Try.ntmps12
  go_wp2_with fail
  refine HC.out.mono ?_
  rintro e w1 ⟨rfl, b1⟩
  have t1 := t0.below b1
  clear b1 t0 HC hsz
  obtain ⟨d0, d1, d2, d3, _⟩ := t1.c4
  obtain ⟨r0, r1, r2, r3, r4, r5, _⟩ := t1.r6
  go_wp2_with fail
  refine (refKindBits_any c a n Ao As Ap lo co ls cs lp cp _).mono ?_
  rintro e w2 ⟨rfl, b2⟩
  rw [kB.out]
  have t2 := t1.below b2
  clear d0 d1 d2 d3 r0 r1 r2 r3 r4 r5 t1 b2
  obtain ⟨d0, d1, d2, d3, _⟩ := t2.c4
  obtain ⟨r0, r1, r2, r3, r4, r5, _⟩ := t2.r6
  go_wp2_with fail
  refine (refBits_any Bo mo eo ron _ (HON.out.more2 t2) HLEN.out (by omega)).mono ?_
  rintro e w3 ⟨v3, rfl, own3, b3⟩
  rw [hL.out] at own3
  have t3 := t2.below b3
  have own3 := own3.mono (base' := w.heap.size) (by have := t2.lt; omega)
  clear d0 d1 d2 d3 r0 r1 r2 r3 r4 r5 t2 b3
  obtain ⟨d0, d1, d2, d3, _⟩ := t3.c4
  obtain ⟨r0, r1, r2, r3, r4, r5, _⟩ := t3.r6
  go_wp2_with fail
  refine (refWords_kind c a n Ao As Ap lo co ls cs lp cp _).mono ?_
  rintro e w4 ⟨rfl, b4⟩
  rw [kW.out]
  have t4 := t3.below b4
  have own4 := own3.below b4 (Nat.le_refl _)
  clear d0 d1 d2 d3 r0 r1 r2 r3 r4 r5 t3 b4 own3
  obtain ⟨d0, d1, d2, d3, _⟩ := t4.c4
  obtain ⟨r0, r1, r2, r3, r4, r5, _⟩ := t4.r6
  obtain ⟨A4, n4, c4, hv4⟩ := own_form own4
  subst hv4
  go_wp2
  go_loopw [7, 8] (fun v i wr => i = .int .i64 0 ∧ v = .slice A4 n4 c4 ∧ Own .u8 5 wr w.heap.size (.slice A4 n4 c4) L ∧ TB w w.heap.size (.cells #[.int .i64 c, .int .i64 a, .int .i64 n, .slice Ao lo co, .slice As ls cs, .slice Ap lp cp] 26 (0, 0)) (.cells #[.int .i64 0, .slice Bo mo eo, .slice Bs ms es, .slice Bf 0 ef] 29 (0, 0)) wr) (fun _ i _ => 0)
  case atStart => exact ⟨rfl, rfl, own4, t4⟩
  case round =>
    clear t4 own4
    obtain ⟨rfl, rfl, own5, t5⟩ := hrel
    clear d0 d1 d2 d3 r0 r1 r2 r3 r4 r5
    obtain ⟨d0, d1, d2, d3, _⟩ := t5.c4
    obtain ⟨r0, r1, r2, r3, r4, r5, _⟩ := t5.r6
    go_wp2_with fail
    refine (refKindBits_any c a n Ao As Ap lo co ls cs lp cp _).mono ?_
    rintro e w6 ⟨rfl, b6⟩
    rw [kB.out]
    have t6 := t5.below b6
    have own6 := own5.below b6 (Nat.le_refl _)
    clear d0 d1 d2 d3 r0 r1 r2 r3 r4 r5 t5 b6 own5
    obtain ⟨d0, d1, d2, d3, _⟩ := t6.c4
    obtain ⟨r0, r1, r2, r3, r4, r5, _⟩ := t6.r6
    have t7 := t6
    have own7 := own6
    clear t6 own6
    have hsz7 := t7.bel.size
    have hlt7 := t7.lt
    obtain ⟨hrow6, hlen7⟩ : Row .u8 w6 w6.heap.size A4 L ∧ L.length = n4 := by
      obtain ⟨A, n, c, e, r, l⟩ := own7.view2 HWF.out
      injection e with e1 e2 e3
      subst e1 e2 e3
      exact ⟨r, l⟩
    have R7 := Lib.hid (hrow6.alloc (Nat.le_refl _) (.cells (blk .u8 [c, (n4 : Int)]) 5))
    have L7 := Lib.hid hlen7
    have hn4 : n4 ≤ 250 := by omega
    have e2 : IntKind.u8.wrap (n4 : Int) = n4 := by rw [IntKind.wrap_u8]; omega
    have hown := Own.laid (k := .u8) (base := w.heap.size) (n := 2) (heap_alloc_new w6 (.cells (blk .u8 [c, (n4 : Int)]) 5)) hsz7 (show [c, (n4 : Int)].length = 2 from rfl) (by simp [maxLen])
    have belA := t7.bel.alloc hsz7 (.cells (blk .u8 [c, (n4 : Int)]) 5)
    have hsA : w.heap.size ≤ (w6.alloc (.cells (blk .u8 [c, (n4 : Int)]) 5)).heap.size := by simp; omega
    obtain ⟨g7, hg7⟩ : ∃ g, w6.heap.size = g := ⟨_, rfl⟩
    rw [hg7] at hown
    clear hrow6 hlen7
    go_wp2_with (at_builtin; refine wpList_append_row _ rfl (.tmp 96) (.tmp 97) 34 rfl w.heap.size .u8 5 1 Try.underlying34 info_u8 (.slice (some ⟨g7, 0, none⟩) 2 2) [c, (n4 : Int)] rfl hown _ _ n4 c4 L rfl R7.out L7.out (by simp; omega) (by simp [maxLen]; omega) hsA ?_; intro v1 w8 hown8 hg8)
    go_ret2
    exact ⟨_, rfl, by rw [HP.out, L7.out]; exact hown8, Below.own belA hsA hown hg8⟩
end Go.Proofs.Ytobhllcnljggiaa
namespace Go.Proofs.Ytobhllcnljggiaa
open Go.RowKit
set_option linter.unusedVariables false

set_option maxHeartbeats 4000000 in
set_option maxRecDepth 100000 in
theorem refPutR_files (c a n : Int) (on : List Bool) (set fl : List Int) (x : Int) (ron : List Bool) (rset : List Int) (fs : List (List Int)) (Ao As Ap Bo Bs Bf : Option Addr) (lo ls lp co cs cp mo ms mf eo es ef : Nat) (w : World) (h : Asked w w.heap.size (⟨c, a, n, on, set, fl⟩ : Req) Ao As Ap lo ls lp) (hr : Repd w w.heap.size (⟨x, ron, rset, fs⟩ : Rep) Bo Bs Bf mo ms mf) (hb : lp ≤ 100000) (hk : chkR (⟨c, a, n, on, set, fl⟩ : Req) (⟨x, ron, rset, fs⟩ : Rep) = 0) (hx : x = 0) (hc : c = 20) :
    Calls Try.prog 12 #[.agg #[.int .i64 c, .int .i64 a, .int .i64 n, .slice Ao lo co, .slice As ls cs, .slice Ap lp cp], .agg #[.int .i64 x, .slice Bo mo eo, .slice Bs ms es, .slice Bf mf ef]] w (GivesOwn w (putR (⟨c, a, n, on, set, fl⟩ : Req) (⟨x, ron, rset, fs⟩ : Rep)) 0) := by
  have t0 := TB.new2 w #[.int .i64 c, .int .i64 a, .int .i64 n, .slice Ao lo co, .slice As ls cs, .slice Ap lp cp] #[.int .i64 x, .slice Bo mo eo, .slice Bs ms es, .slice Bf mf ef] 26 29
  have hsz : w.heap.size ≤ ((w.alloc (.cells #[.int .i64 c, .int .i64 a, .int .i64 n, .slice Ao lo co, .slice As ls cs, .slice Ap lp cp] 26)).alloc (.cells #[.int .i64 x, .slice Bo mo eo, .slice Bs ms es, .slice Bf mf ef] 29)).heap.size := t0.bel.size
  have H := Lib.hid ((h.below t0.bel).more hsz)
  have HR := Lib.hid ((hr.below t0.bel).more hsz)
  have HC := Lib.hid (refRp_any (⟨c, a, n, on, set, fl⟩ : Req) (⟨x, ron, rset, fs⟩ : Rep) Ao As Ap Bo Bs Bf lo ls lp co cs cp mo ms mf eo es ef _ H.out HR.out hb)
  rw [hk] at HC
  obtain ⟨f1, f2, f3⟩ := rep_files hk hx hc
  simp only at f1 f2 f3
  have HN : Hid (fs.length = mf) := Lib.hid hr.mf
  have HFS := Lib.hid hr.fs
  rw [HN.out] at f1 f2 f3
  have HL2 := Lib.hid f2
  have HP : Hid (putR (⟨c, a, n, on, set, fl⟩ : Req) (⟨x, ron, rset, fs⟩ : Rep) = 20 :: ((fbytes fs mf).length : Int) :: fbytes fs mf) := Lib.hid (by
    unfold putR formR
    rw [if_neg (show ¬ chkR (⟨c, a, n, on, set, fl⟩ : Req) (⟨x, ron, rset, fs⟩ : Rep) ≠ 0 by rw [hk]; simp), if_neg (show ¬ x ≠ 0 by rw [hx]; simp), if_neg (show ¬ (c = 1 ∨ c = 2) by omega), if_neg (show ¬ (c = 3 ∨ c = 4) by omega), if_pos hc, HN.out])
  have kB : Hid (clB c = false) := Lib.hid (by unfold clB; simp; omega)
  have kW : Hid (clW c = false) := Lib.hid (by unfold clW; simp; omega)
  have kF : Hid (clF c = true) := Lib.hid (by unfold clF; simp; omega)
  subst hx hc
  clear h hr hk f2
  go_enter Try.func12, Try.ntmps12
  go_wp2_with fail
  refine HC.out.mono ?_
  rintro e w1 ⟨rfl, b1⟩
  have t1 := t0.below b1
  clear b1 t0 HC hsz
  obtain ⟨d0, d1, d2, d3, _⟩ := t1.c4
  obtain ⟨r0, r1, r2, r3, r4, r5, _⟩ := t1.r6
  go_wp2_with fail
  refine (refKindBits_any 20 a n Ao As Ap lo co ls cs lp cp _).mono ?_
  rintro e w1b ⟨rfl, b1b⟩
  rw [kB.out]
  have t1b := t1.below b1b
  clear d0 d1 d2 d3 r0 r1 r2 r3 r4 r5 t1 b1b
  obtain ⟨d0, d1, d2, d3, _⟩ := t1b.c4
  obtain ⟨r0, r1, r2, r3, r4, r5, _⟩ := t1b.r6
  go_wp2_with fail
  refine (refWords_kind 20 a n Ao As Ap lo co ls cs lp cp _).mono ?_
  rintro e w2 ⟨rfl, b2⟩
  rw [kW.out]
  have t2 := t1b.below b2
  clear d0 d1 d2 d3 r0 r1 r2 r3 r4 r5 t1b b2
  obtain ⟨d0, d1, d2, d3, _⟩ := t2.c4
  obtain ⟨r0, r1, r2, r3, r4, r5, _⟩ := t2.r6
  go_wp2
  go_loopw [7, 8] (fun v i wr => ∃ k : Nat, k ≤ mf ∧ i = .int .i64 k ∧ Own .u8 5 wr (w.heap.size + 2) v (fbytes fs k) ∧ TB w w.heap.size (.cells #[.int .i64 20, .int .i64 a, .int .i64 n, .slice Ao lo co, .slice As ls cs, .slice Ap lp cp] 26 (0, 0)) (.cells #[.int .i64 0, .slice Bo mo eo, .slice Bs ms es, .slice Bf mf ef] 29 (0, 0)) wr) (fun _ i _ => mf - (intOf i).toNat)
  case atStart => exact ⟨0, by omega, rfl, Own.nil _ _ _ _, t2⟩
  case round =>
    clear t2
    obtain ⟨k, hkk, rfl, hown, t5⟩ := hrel
    clear d0 d1 d2 d3 r0 r1 r2 r3 r4 r5
    obtain ⟨d0, d1, d2, d3, _⟩ := t5.c4
    obtain ⟨r0, r1, r2, r3, r4, r5, _⟩ := t5.r6
    by_cases hlt : k < mf
    · obtain ⟨b, o, Ai, ci, rfl, hb1, hc0, rw0, hle⟩ := HFS.out.at_ (i := k) (by rw [HN.out]; exact hlt)
      have hc1 := (t5.bel.cell (p := ⟨b, o + k, none⟩) hb1).trans hc0
      have hlen := HL2.out k hlt
      have HB : Hid (fbytes fs (k + 1) = fbytes fs k ++ [((1 + 2 * (nthF fs k).length : Nat) : Int), 6] ++ wbytes (nthF fs k)) := Lib.hid rfl
      have HF : Hid ((fbytes fs k).length ≤ 25600) := Lib.hid (by have := fbytes_length fs k (fun i hi => HL2.out i (by omega)); omega)
      generalize nthF fs k = xs at *
      obtain ⟨z, hz⟩ : ∃ z, Hid (xs.length = z) := ⟨_, Lib.hid rfl⟩
      rw [hz.out] at hc1 hlen HB hle
      obtain ⟨P, hP⟩ : ∃ P, Hid (fbytes fs k = P) := ⟨_, Lib.hid rfl⟩
      rw [hP.out] at hown HB HF
      have hsz := t5.lt
      obtain ⟨p, hp⟩ : ∃ p, Hid (((1 + 2 * z : Nat) : Int) = p) := ⟨_, Lib.hid rfl⟩
      have hwp : (Lit.int .u8 p).wf = true := by rw [← hp.out]; exact wf_byte _ (by omega)
      have e1 : IntKind.i64.wrap (2 * (z : Int)) = 2 * (z : Int) := IntWalk.i64_in _ (by omega)
      have e2 : IntKind.i64.wrap (1 + 2 * (z : Int)) = p := by rw [← hp.out]; rw [show ((1 + 2 * z : Nat) : Int) = 1 + 2 * (z : Int) by omega]; exact IntWalk.i64_in _ (by omega)
      have e2' : 1 + 2 * (z : Int) = p := by rw [← hp.out]; omega
      have e3 : IntKind.u8.wrap p = p := by rw [← hp.out, IntKind.wrap_u8]; omega
      rw [hp.out] at HB
      have R0 := Lib.hid rw0
      have hklt : (k : Int) < (mf : Int) := by omega
      obtain ⟨Av, nv, cv, hv⟩ := own_form hown
      subst hv
      have HCK := Lib.hid (show w.cell? ⟨b, o + k, none⟩ = some (.slice Ai z ci) by rw [hc0, hz.out])
      clear rw0 hc0
      go_wp2_with (first
        | (at_builtin; refine wpList_append_row _ rfl (.tmp 46) (.tmp 56) 34 rfl (w.heap.size + 2) .u8 5 1 Try.underlying34 info_u8 (.slice Av nv cv) P rfl (hown.alloc _) _ _ 1 1 [p] rfl (Row.one .u8 wr 5 p hwp) rfl (by have := HF.out; omega) (by have := HF.out; simp only [maxLen]; omega) (by simp; omega) ?_; intro v1 w1 hown1 hg1; have t6 := (t5.alloc (.cells #[.int .u8 p] 5)).grown hg1 (fun g e => ((hown.alloc (.cells #[.int .u8 p] 5)).block g e).1); have hsz6 := t6.lt)
        | (at_builtin; refine wpList_append_row _ rfl (.tmp 58) (.tmp 59) 34 rfl (w.heap.size + 2) .u8 5 1 Try.underlying34 info_u8 v1 (P ++ [p]) rfl (hown1.alloc _) _ _ 1 1 [6] rfl (Row.one .u8 w1 5 6 (by decide)) rfl (by have := HF.out; simp; omega) (by have := HF.out; simp [maxLen]; omega) (by simp; omega) ?_; intro v2 w2 hown2 hg2; have t7 := (t6.alloc (.cells #[.int .u8 6] 5)).grown hg2 (fun g e => ((hown1.alloc (.cells #[.int .u8 6] 5)).block g e).1); have hc2 := (t7.bel.cell (p := ⟨b, o + k, none⟩) hb1).trans HCK.out; have k0 := t7.c4.2.2.2.1; obtain ⟨Ax, nx, cx, hv2⟩ := own_form hown2; subst hv2))
      have hsz7 := t7.bel.size
      have hlt7 := t7.lt
      clear hown1 hg1 hg2 hc1 t5 t6 d0 d1 d2 d3 r0 r1 r2 r3 r4 r5
      refine (refBytes_any Ai z ci xs _ (R0.out.more2 t7) hz.out (by omega)).mono ?_
      rintro e w3 ⟨v3, rfl, own3, b3⟩
      have t8 := t7.below b3
      have hown3 := hown2.below b3 (by omega)
      have hsz8 := t8.lt
      have HWL : Hid ((wbytes xs).length = 2 * z) := Lib.hid (by rw [wbytes_length, hz.out])
      obtain ⟨A3, n3, c3, rfl, r3', l3⟩ := own3.view2 (wbytes_wf xs)
      have e4 : n3 = 2 * z := l3.symm.trans HWL.out
      subst e4
      have R3 := Lib.hid r3'
      clear own3 b3 hown2 t7 l3 r3' hc2 k0
      go_wp2_with (at_builtin; refine wpList_append_row _ rfl (.tmp 61) (.tmp 67) 34 rfl (w.heap.size + 2) .u8 5 1 Try.underlying34 info_u8 (.slice Ax nx cx) (P ++ [p] ++ [6]) rfl hown3 _ _ (2 * z) c3 (wbytes xs) rfl R3.out HWL.out (by have := HF.out; simp; omega) (by have := HF.out; simp [maxLen]; omega) (by omega) ?_; intro v4 w4 hown4 hg4)
      have t9 := t8.grown hg4 (fun g e => (hown3.block g e).1)
      rw [List.append_assoc P [p] [6], show [p] ++ [(6 : Int)] = [p, 6] from rfl, ← HB.out] at hown4
      clear hown3 hg4 t8
      (try go_wp2)
      go_roundw
      case rel => exact ⟨k + 1, by omega, by go_num, hown4, t9⟩
      case measure => simp [intOf]; omega
    · obtain rfl : k = mf := by omega
      obtain ⟨L, hL⟩ : ∃ L, Hid (fbytes fs k = L) := ⟨_, Lib.hid rfl⟩
      rw [hL.out] at f3 HP hown
      have HWF : Hid (∀ y ∈ L, (Lit.int .u8 y).wf = true) := Lib.hid (by rw [← hL.out]; exact fbytes_wf fs k (fun i hi => HL2.out i hi))
      have own5 := hown.mono (base' := w.heap.size) (by omega)
      have u1 : IntKind.u8.wrap (20 : Int) = 20 := rfl
      obtain ⟨A4, n4, c4, hv4⟩ := own_form own5
      subst hv4
      clear hown
      go_wp2_with fail
      refine (refKindBits_any 20 a n Ao As Ap lo co ls cs lp cp _).mono ?_
      rintro e w6 ⟨rfl, b6⟩
      rw [kB.out]
      have t6 := t5.below b6
      have own6 := own5.below b6 (Nat.le_refl _)
      clear d0 d1 d2 d3 r0 r1 r2 r3 r4 r5 t5 b6 own5
      obtain ⟨d0, d1, d2, d3, _⟩ := t6.c4
      obtain ⟨r0, r1, r2, r3, r4, r5, _⟩ := t6.r6
      go_wp2_with fail
      refine (refWords_kind 20 a n Ao As Ap lo co ls cs lp cp _).mono ?_
      rintro e w6b ⟨rfl, b6b⟩
      rw [kW.out]
      have t6b := t6.below b6b
      have own6b := own6.below b6b (Nat.le_refl _)
      clear d0 d1 d2 d3 r0 r1 r2 r3 r4 r5 t6 b6b own6
      obtain ⟨d0, d1, d2, d3, _⟩ := t6b.c4
      obtain ⟨r0, r1, r2, r3, r4, r5, _⟩ := t6b.r6
      go_wp2_with fail
      refine (refFiles_kind 20 a n Ao As Ap lo co ls cs lp cp _).mono ?_
      rintro e w7 ⟨rfl, b7⟩
      rw [kF.out]
      have t7 := t6b.below b7
      have own7 := own6b.below b7 (Nat.le_refl _)
      clear d0 d1 d2 d3 r0 r1 r2 r3 r4 r5 t6b b7 own6b
      obtain ⟨d0, d1, d2, d3, _⟩ := t7.c4
      obtain ⟨r0, r1, r2, r3, r4, r5, _⟩ := t7.r6
      have hsz7 := t7.bel.size
      have hlt7 := t7.lt
      obtain ⟨hrow7, hlen7⟩ : Row .u8 w7 w7.heap.size A4 L ∧ L.length = n4 := by
        obtain ⟨A, n, c, e, r, l⟩ := own7.view2 HWF.out
        injection e with e1 e2 e3
        subst e1 e2 e3
        exact ⟨r, l⟩
      have R7 := Lib.hid (hrow7.alloc (Nat.le_refl _) (.cells (blk .u8 [20, (n4 : Int)]) 5))
      have L7 := Lib.hid hlen7
      have hn4 : n4 ≤ 255 := by omega
      have e2 : IntKind.u8.wrap (n4 : Int) = n4 := by rw [IntKind.wrap_u8]; omega
      have hown := Own.laid (k := .u8) (base := w.heap.size) (n := 2) (heap_alloc_new w7 (.cells (blk .u8 [20, (n4 : Int)]) 5)) hsz7 (show [20, (n4 : Int)].length = 2 from rfl) (by simp [maxLen])
      have belA := t7.bel.alloc hsz7 (.cells (blk .u8 [20, (n4 : Int)]) 5)
      have hsA : w.heap.size ≤ (w7.alloc (.cells (blk .u8 [20, (n4 : Int)]) 5)).heap.size := by simp; omega
      obtain ⟨g7, hg7⟩ : ∃ g, w7.heap.size = g := ⟨_, rfl⟩
      rw [hg7] at hown
      clear hrow7 hlen7
      go_wp2_with (at_builtin; refine wpList_append_row _ rfl (.tmp 96) (.tmp 97) 34 rfl w.heap.size .u8 5 1 Try.underlying34 info_u8 (.slice (some ⟨g7, 0, none⟩) 2 2) [20, (n4 : Int)] rfl hown _ _ n4 c4 L rfl R7.out L7.out (by simp; omega) (by simp [maxLen]; omega) hsA ?_; intro v1 w8 hown8 hg8)
      go_ret2
      exact ⟨_, rfl, by rw [HP.out, L7.out]; exact hown8, Below.own belA hsA hown hg8⟩
end Go.Proofs.Ytobhllcnljggiaa
namespace Go.Proofs.Ytobhllcnljggiaa
open Go.RowKit
set_option linter.unusedVariables false

set_option maxHeartbeats 4000000 in
set_option maxRecDepth 100000 in
theorem refPutR_echo (c a n : Int) (on : List Bool) (set fl : List Int) (x : Int) (ron : List Bool) (rset : List Int) (fs : List (List Int)) (Ao As Ap Bo Bs Bf : Option Addr) (lo ls lp co cs cp mo ms mf eo es ef : Nat) (w : World) (h : Asked w w.heap.size (⟨c, a, n, on, set, fl⟩ : Req) Ao As Ap lo ls lp) (hr : Repd w w.heap.size (⟨x, ron, rset, fs⟩ : Rep) Bo Bs Bf mo ms mf) (hb : lp ≤ 100000) (hk : chkR (⟨c, a, n, on, set, fl⟩ : Req) (⟨x, ron, rset, fs⟩ : Rep) = 0) (hx : x = 0) (h1 : ¬ (c = 1 ∨ c = 2)) (h2 : ¬ (c = 3 ∨ c = 4)) (h3 : c ≠ 20) :
    Calls Try.prog 12 #[.agg #[.int .i64 c, .int .i64 a, .int .i64 n, .slice Ao lo co, .slice As ls cs, .slice Ap lp cp], .agg #[.int .i64 x, .slice Bo mo eo, .slice Bs ms es, .slice Bf mf ef]] w (GivesOwn w (putR (⟨c, a, n, on, set, fl⟩ : Req) (⟨x, ron, rset, fs⟩ : Rep)) 0) := by
  have t0 := TB.new2 w #[.int .i64 c, .int .i64 a, .int .i64 n, .slice Ao lo co, .slice As ls cs, .slice Ap lp cp] #[.int .i64 x, .slice Bo mo eo, .slice Bs ms es, .slice Bf mf ef] 26 29
  have hsz : w.heap.size ≤ ((w.alloc (.cells #[.int .i64 c, .int .i64 a, .int .i64 n, .slice Ao lo co, .slice As ls cs, .slice Ap lp cp] 26)).alloc (.cells #[.int .i64 x, .slice Bo mo eo, .slice Bs ms es, .slice Bf mf ef] 29)).heap.size := t0.bel.size
  have H := Lib.hid ((h.below t0.bel).more hsz)
  have HR := Lib.hid ((hr.below t0.bel).more hsz)
  have HC := Lib.hid (refRp_any (⟨c, a, n, on, set, fl⟩ : Req) (⟨x, ron, rset, fs⟩ : Rep) Ao As Ap Bo Bs Bf lo ls lp co cs cp mo ms mf eo es ef _ H.out HR.out hb)
  rw [hk] at HC
  obtain ⟨q1, q2, q3⟩ := rep_stray hk hx
  simp only at q1 q2 q3
  have hq := (chkR_zero hk hx).1
  have H5 := Lib.hid (putL_five hq h3)
  have hmf : mf = 0 := by have h1 := hr.mf; have h2 := q3 h3; simp only at h1; omega
  have HP : Hid (putR (⟨c, a, n, on, set, fl⟩ : Req) (⟨x, ron, rset, fs⟩ : Rep) = (putL (⟨c, a, n, on, set, fl⟩ : Req)).take 5) := Lib.hid (by
    unfold putR formR
    rw [if_neg (show ¬ chkR (⟨c, a, n, on, set, fl⟩ : Req) (⟨x, ron, rset, fs⟩ : Rep) ≠ 0 by rw [hk]; simp), if_neg (show ¬ x ≠ 0 by rw [hx]; simp), if_neg h1, if_neg h2, if_neg h3])
  have HQ := Lib.hid hq
  have HA := Lib.hid h
  have kB : Hid (clB c = false) := Lib.hid (decide_eq_false h1)
  have kW : Hid (clW c = false) := Lib.hid (decide_eq_false h2)
  have kF : Hid (clF c = false) := Lib.hid (decide_eq_false h3)
  subst hx hmf
  clear h hr hk q1 q2 q3 h1 h2 h3 hq
  go_enter Try.func12, Try.ntmps12
  go_wp2_with fail
  refine HC.out.mono ?_
  rintro e w1 ⟨rfl, b1⟩
  have t1 := t0.below b1
  clear b1 t0 HC hsz
  obtain ⟨d0, d1, d2, d3, _⟩ := t1.c4
  obtain ⟨r0, r1, r2, r3, r4, r5, _⟩ := t1.r6
  go_wp2_with fail
  refine (refKindBits_any c a n Ao As Ap lo co ls cs lp cp _).mono ?_
  rintro e w1b ⟨rfl, b1b⟩
  rw [kB.out]
  have t1b := t1.below b1b
  clear d0 d1 d2 d3 r0 r1 r2 r3 r4 r5 t1 b1b
  obtain ⟨d0, d1, d2, d3, _⟩ := t1b.c4
  obtain ⟨r0, r1, r2, r3, r4, r5, _⟩ := t1b.r6
  go_wp2_with fail
  refine (refWords_kind c a n Ao As Ap lo co ls cs lp cp _).mono ?_
  rintro e w2 ⟨rfl, b2⟩
  rw [kW.out]
  have t2 := t1b.below b2
  clear d0 d1 d2 d3 r0 r1 r2 r3 r4 r5 t1b b2
  obtain ⟨d0, d1, d2, d3, _⟩ := t2.c4
  obtain ⟨r0, r1, r2, r3, r4, r5, _⟩ := t2.r6
  go_wp2
  go_loopw [7, 8] (fun v i wr => i = .int .i64 0 ∧ v = .slice none 0 0 ∧ TB w w.heap.size (.cells #[.int .i64 c, .int .i64 a, .int .i64 n, .slice Ao lo co, .slice As ls cs, .slice Ap lp cp] 26 (0, 0)) (.cells #[.int .i64 0, .slice Bo mo eo, .slice Bs ms es, .slice Bf 0 ef] 29 (0, 0)) wr) (fun _ i _ => 0)
  case atStart => exact ⟨rfl, rfl, t2⟩
  case round =>
    clear t2
    obtain ⟨rfl, rfl, t5⟩ := hrel
    clear d0 d1 d2 d3 r0 r1 r2 r3 r4 r5
    obtain ⟨d0, d1, d2, d3, _⟩ := t5.c4
    obtain ⟨r0, r1, r2, r3, r4, r5, _⟩ := t5.r6
    go_wp2_with fail
    refine (refKindBits_any c a n Ao As Ap lo co ls cs lp cp _).mono ?_
    rintro e w6 ⟨rfl, b6⟩
    rw [kB.out]
    have t6 := t5.below b6
    clear d0 d1 d2 d3 r0 r1 r2 r3 r4 r5 t5 b6
    obtain ⟨d0, d1, d2, d3, _⟩ := t6.c4
    obtain ⟨r0, r1, r2, r3, r4, r5, _⟩ := t6.r6
    go_wp2_with fail
    refine (refWords_kind c a n Ao As Ap lo co ls cs lp cp _).mono ?_
    rintro e w7 ⟨rfl, b7⟩
    rw [kW.out]
    have t7 := t6.below b7
    clear d0 d1 d2 d3 r0 r1 r2 r3 r4 r5 t6 b7
    obtain ⟨d0, d1, d2, d3, _⟩ := t7.c4
    obtain ⟨r0, r1, r2, r3, r4, r5, _⟩ := t7.r6
    go_wp2_with fail
    refine (refFiles_kind c a n Ao As Ap lo co ls cs lp cp _).mono ?_
    rintro e w8 ⟨rfl, b8⟩
    rw [kF.out]
    have t8 := t7.below b8
    clear d0 d1 d2 d3 r0 r1 r2 r3 r4 r5 t7 b8
    obtain ⟨d0, d1, d2, d3, _⟩ := t8.c4
    obtain ⟨r0, r1, r2, r3, r4, r5, _⟩ := t8.r6
    go_wp2_with fail
    refine (refPut_any (⟨c, a, n, on, set, fl⟩ : Req) Ao As Ap lo ls lp co cs cp _ ((HA.out.below t8.bel).more t8.bel.size)).mono ?_
    rw [HQ.out]
    rintro e w9 ⟨v9, rfl, own9, b9⟩
    have t9 := t8.below b9
    obtain ⟨A1, c1, rfl, _, hle, _⟩ := own9.row (putL_wf (⟨c, a, n, on, set, fl⟩ : Req))
    have OW := Lib.hid ((own9.front H5.out).mono (base' := w.heap.size) (by have := t8.bel.size; omega))
    have bel := t9.bel
    obtain ⟨n1, hn1⟩ : ∃ y, (putL (⟨c, a, n, on, set, fl⟩ : Req)).length = y := ⟨_, rfl⟩
    rw [hn1] at hle
    rw [hn1]
    have hc5 : (5 : Int) ≤ (c1 : Int) := by have := H5.out; omega
    clear own9 b9 t8 hn1 d0 d1 d2 d3 r0 r1 r2 r3 r4 r5 t9
    go_wp2
    go_ret2
    exact ⟨_, rfl, by rw [HP.out]; exact OW.out, bel⟩

theorem refPutR_any (q : Req) (r : Rep) (Ao As Ap Bo Bs Bf : Option Addr) (lo ls lp co cs cp mo ms mf eo es ef : Nat) (w : World) (h : Asked w w.heap.size q Ao As Ap lo ls lp) (hr : Repd w w.heap.size r Bo Bs Bf mo ms mf) (hb : lp ≤ 100000) :
    Calls Try.prog 12 #[.agg #[.int .i64 q.c, .int .i64 q.a, .int .i64 q.n, .slice Ao lo co, .slice As ls cs, .slice Ap lp cp], .agg #[.int .i64 r.x, .slice Bo mo eo, .slice Bs ms es, .slice Bf mf ef]] w (GivesOwn w (putR q r) (chkR q r)) := by
  by_cases hk : chkR q r = 0
  · rw [hk]
    by_cases hx : r.x = 0
    · obtain ⟨c, a, n, on, set, fl⟩ := q
      obtain ⟨x, ron, rset, fs⟩ := r
      by_cases h1 : c = 1 ∨ c = 2
      · exact refPutR_bits c a n on set fl x ron rset fs Ao As Ap Bo Bs Bf lo ls lp co cs cp mo ms mf eo es ef w h hr hb hk hx h1
      · by_cases h2 : c = 3 ∨ c = 4
        · exact refPutR_words c a n on set fl x ron rset fs Ao As Ap Bo Bs Bf lo ls lp co cs cp mo ms mf eo es ef w h hr hb hk hx h2
        · by_cases h3 : c = 20
          · exact refPutR_files c a n on set fl x ron rset fs Ao As Ap Bo Bs Bf lo ls lp co cs cp mo ms mf eo es ef w h hr hb hk hx h3
          · exact refPutR_echo c a n on set fl x ron rset fs Ao As Ap Bo Bs Bf lo ls lp co cs cp mo ms mf eo es ef w h hr hb hk hx h1 h2 h3
    · exact refPutR_exc q r Ao As Ap Bo Bs Bf lo ls lp co cs cp mo ms mf eo es ef w h hr hb hk hx
  · exact refPutR_bad q r Ao As Ap Bo Bs Bf lo ls lp co cs cp mo ms mf eo es ef w h hr hb hk
end Go.Proofs.Ytobhllcnljggiaa
namespace Go.Proofs.Ytobhllcnljggiaa
open Go.RowKit
set_option linter.unusedVariables false
theorem spoilO_at (p l r : List Int) (k : Nat) (hk : k < l.length) : nth (p ++ spoil8 k l ++ r) (p.length + k) = nth l k := by
  rw [nth_left _ _ _ (by rw [List.length_append, spoil8_length]; omega), nth_right, spoil8_at k l hk]
theorem spoilO_set (p l r : List Int) (k : Nat) (hk : k < l.length) : (p ++ spoil8 k l ++ r).set (p.length + k) (bits .xor .u8 (nth l k) 90) = p ++ spoil8 (k + 1) l ++ r := by
  rw [List.set_append_left _ _ (by rw [List.length_append, spoil8_length]; omega), List.set_append_right _ _ (by omega), Nat.add_sub_cancel_left, spoil8_set k l hk]

set_option maxHeartbeats 400000 in
theorem spoilO_u8 (g o n c : Nat) (p l r : List Int) (w : World) (hg : w.heap[g]? = some (.cells (blk .u8 (p ++ l ++ r)) 5 (0, 0))) (hp : p.length = o) (hl : l.length = c) (hn : n ≤ c) (hc : c ≤ 140737488355328) :
    Calls Try.prog 47 #[.slice (some ⟨g, o, none⟩) n c] w fun e w' => e = .returned (.tuple #[]) ∧ w'.heap[g]? = some (.cells (blk .u8 (p ++ spoil8 c l ++ r)) 5 (0, 0)) ∧ w.grownBy w' (some g) ∧ w'.heap.size = w.heap.size := by
  have hl' := Lib.hid hl
  have hp' := Lib.hid hp
  clear hl hp
  go_enter Try.func47, Try.ntmps47
  go_wp2
  go_loopw [3] (fun i wr => ∃ k : Nat, k ≤ c ∧ i = .int .i64 k ∧ Hid (wr.heap[g]? = some (.cells (blk .u8 (p ++ spoil8 k l ++ r)) 5 (0, 0))) ∧ w.grownBy wr (some g) ∧ Hid (wr.heap.size = w.heap.size)) (fun i _ => c - (intOf i).toNat)
  case atStart => exact ⟨0, by omega, rfl, Lib.hid (by rw [spoil8_zero]; exact hg), World.grownBy.refl _ _, Lib.hid rfl⟩
  case round =>
    obtain ⟨k, hk, rfl, hb, hgr, hsz⟩ := hrel
    by_cases hlt : k < c
    · have hc1 : wr.cell? ⟨g, o + k, none⟩ = some (.int .u8 (nth l k)) := by
        rw [cell_of_row wr g (o + k) _ _ _ hb.out, blk_get _ _ _ (by rw [List.length_append, List.length_append, spoil8_length, hl'.out, hp'.out]; omega), ← hp'.out, spoilO_at p l r k (by have := hl'.out; omega)]
      have hfz := block_frozen wr g (o + k) _ _ hb.out
      have hnew := Lib.hid (block_setCell wr g (o + k) .u8 5 _ (bits .xor .u8 (nth l k) 90) hb.out)
      rw [show (p ++ spoil8 k l ++ r).set (o + k) (bits .xor .u8 (nth l k) 90) = p ++ spoil8 (k + 1) l ++ r by rw [← hp'.out]; exact spoilO_set p l r k (by have := hl'.out; omega)] at hnew
      have hgr2 := grown_setCell hgr (o + k) (.int .u8 (bits .xor .u8 (nth l k) 90))
      have hsz2 : Hid ((wr.setCell ⟨g, o + k, none⟩ (.int .u8 (bits .xor .u8 (nth l k) 90))).heap.size = w.heap.size) := by
        show _ = _
        rw [← hsz.out]; simp [World.setCell]
      go_wp2
      go_roundw
      case rel => exact ⟨k + 1, by omega, by go_num, hnew, hgr2, hsz2⟩
      case measure => simp [intOf]; omega
    · obtain rfl : k = c := by omega
      go_wp2
      go_end0
      exact ⟨rfl, hb.out, hgr, hsz.out⟩
/-- A row inside a block that is known whole. -/
theorem Row.inside {k : IntKind} {w : World} {g : Nat} {t : TypeId} {fr : Nat × Nat} {p l r : List Int} (hg : w.heap[g]? = some (.cells (blk k (p ++ l ++ r)) t fr)) (xs : List Int) (hw : ∀ x ∈ xs, (Lit.int k x).wf = true) (hp : xs <+: l) :
    Row k w (g + 1) (some ⟨g, p.length, none⟩) xs := by
  obtain ⟨ys, rfl⟩ := hp
  refine ⟨hw, fun _ => ⟨_, _, rfl, Nat.lt_succ_self _, fun i hi => ?_⟩⟩
  rw [cell_of_row w g _ _ _ _ hg, blk_get _ _ _ (by simp; omega), nth_left _ _ _ (by simp; omega), nth_right, nth_left _ _ _ hi]
/-- Rows that lie inside blocks of their own, each known whole (or nil), their slices in the array of block gl. -/
structure PartsO (w : World) (B gl m : Nat) (A : Nat → Option Addr) (n c : Nat → Nat) (p l r : Nat → List Int) : Prop where
  at_ : ∀ k, k < m → w.cell? ⟨gl, k, none⟩ = some (.slice (A k) (n k) (c k))
  size : ∀ k, k < m → n k ≤ c k ∧ c k ≤ 140737488355328 ∧ (l k).length = c k
  wf : ∀ k, k < m → ∀ x ∈ l k, (Lit.int .u8 x).wf = true
  lies : ∀ k, k < m → (A k = none ∧ n k = 0 ∧ c k = 0) ∨ ∃ g, A k = some ⟨g, (p k).length, none⟩ ∧ B ≤ g ∧ g ≠ gl ∧ w.heap[g]? = some (.cells (blk .u8 (p k ++ l k ++ r k)) 5 (0, 0))
  apart : ∀ i k, i < m → k < m → i ≠ k → ∀ g o q, A i = some ⟨g, o, none⟩ → A k ≠ some ⟨g, q, none⟩
  gl_lt : gl < w.heap.size

theorem PartsO.row {w : World} {B gl m : Nat} {A : Nat → Option Addr} {n c : Nat → Nat} {p l r : Nat → List Int} (h : PartsO w B gl m A n c p l r) {k : Nat} (hk : k < m) :
    Row .u8 w w.heap.size (A k) ((l k).take (n k)) ∧ ((l k).take (n k)).length = n k := by
  have hs := h.size k hk
  refine ⟨?_, by simp; omega⟩
  rcases h.lies k hk with ⟨ha, hn, hc⟩ | ⟨g, ha, _, _, hg⟩
  · rw [hn, List.take_zero]; exact Row.nil _ _ _ _
  · rw [ha]
    exact (Row.inside hg _ (fun x hx => h.wf k hk x (List.mem_of_mem_take hx)) (List.take_prefix _ _)).more (block_lt hg)
/-- A step that leaves all old blocks leaves the parts. -/
theorem PartsO.below {w w' : World} {B gl m : Nat} {A : Nat → Option Addr} {n c : Nat → Nat} {p l r : Nat → List Int} (h : PartsO w B gl m A n c p l r) (hb : Below w.heap.size w w') : PartsO w' B gl m A n c p l r where
  at_ := fun k hk => (hb.cell (p := ⟨gl, k, none⟩) h.gl_lt).trans (h.at_ k hk)
  size := h.size
  wf := h.wf
  lies := fun k hk => by
    rcases h.lies k hk with h0 | ⟨g, ha, hB, hne, hg⟩
    · exact .inl h0
    · exact .inr ⟨g, ha, hB, hne, (hb.block g (block_lt hg)).trans hg⟩
  apart := h.apart
  gl_lt := Nat.lt_of_lt_of_le h.gl_lt hb.size
/-- One part is written over. -/
theorem PartsO.spoil {w w' : World} {B gl m : Nat} {A : Nat → Option Addr} {n c : Nat → Nat} {p l r : Nat → List Int} (h : PartsO w B gl m A n c p l r) {i g : Nat} (hi : i < m) (ha : A i = some ⟨g, (p i).length, none⟩)
    (hg : w'.heap[g]? = some (.cells (blk .u8 (p i ++ spoil8 (c i) (l i) ++ r i)) 5 (0, 0))) (hgr : w.grownBy w' (some g)) : PartsO w' B gl m A n c p (fun k => if k = i then spoil8 (c i) (l i) else l k) r where
  at_ := fun k hk => by
    rcases h.lies i hi with ⟨h0, _⟩ | ⟨g', ha', _, hne, _⟩
    · rw [ha] at h0; cases h0
    · rw [ha] at ha'
      injection ha' with ha'
      injection ha' with ha'
      subst ha'
      exact (World.cell?_of_block (hgr.block gl h.gl_lt (fun e => hne (by injection e with e; exact e.symm)))).trans (h.at_ k hk)
  size := fun k hk => by
    have := h.size k hk
    refine ⟨this.1, this.2.1, ?_⟩
    split
    · rename_i e; subst e; rw [spoil8_length]; exact this.2.2
    · exact this.2.2
  wf := fun k hk => by
    show ∀ x ∈ (if k = i then spoil8 (c i) (l i) else l k), _
    split
    · exact spoil8_wf _ _ (h.wf i hi)
    · exact h.wf k hk
  lies := fun k hk => by
    by_cases e : k = i
    · subst e
      rcases h.lies k hi with ⟨h0, _⟩ | ⟨g', ha', hB, hne, _⟩
      · rw [ha] at h0; cases h0
      · rw [ha] at ha'
        injection ha' with ha'
        injection ha' with ha'
        subst ha'
        exact .inr ⟨g, ha, hB, hne, by rw [if_pos rfl]; exact hg⟩
    · rcases h.lies k hk with h0 | ⟨g', ha', hB, hne, hg'⟩
      · exact .inl h0
      · refine .inr ⟨g', ha', hB, hne, ?_⟩
        rw [if_neg e, hgr.block g' (block_lt hg') (fun e' => ?_)]
        · exact hg'
        · injection e' with e'
          subst e'
          exact h.apart k i hk hi e _ _ _ ha' ha
  apart := h.apart
  gl_lt := Nat.lt_of_lt_of_le h.gl_lt hgr.size

set_option maxHeartbeats 1000000 in
theorem apartO_u8 (gl m B : Nat) (A : Nat → Option Addr) (n c : Nat → Nat) (p l0 r : Nat → List Int) (w : World) (hP : PartsO w B gl m A n c p l0 r) (hB : B ≤ w.heap.size) (hm : m ≤ 1000) :
    Calls Try.prog 16 #[.slice (some ⟨gl, 0, none⟩) m m] w fun e w' => e = .returned (.bool true) ∧ Below B w w' := by
  go_enter Try.func16, Try.ntmps16
  go_wp2
  go_loopw [3, 4, 5] (fun i _ _ wr => ∃ (j : Nat) (l : Nat → List Int), j ≤ m ∧ i = .int .i64 j ∧ PartsO wr B gl m A n c p l r ∧ Below B w wr) (fun i _ _ _ => m - (intOf i).toNat)
  case atStart => exact ⟨0, l0, by omega, rfl, hP, Below.refl _ _⟩
  case round =>
    obtain ⟨i, l1, hi, rfl, hP1, hb1⟩ := hrel
    by_cases hlt : i < m
    · go_wp2
      obtain ⟨wo, hwo⟩ : ∃ wo : World, wo = wr := ⟨_, rfl⟩
      subst hwo
      go_loopw [4, 5] (fun k _ wr => ∃ (j : Nat) (l : Nat → List Int), j ≤ m ∧ k = .int .i64 j ∧ PartsO wr B gl m A n c p l r ∧ Below B w wr) (fun k _ _ => m - (intOf k).toNat)
      case atStart => exact ⟨0, l1, by omega, rfl, hP1, hb1⟩
      case round =>
        obtain ⟨k, l, hk, rfl, hP2, hb2⟩ := hrel
        by_cases hlk : k < m
        · by_cases hik : i = k
          · subst hik
            go_wp2
            go_roundw
            case rel => exact ⟨i + 1, l, by omega, by go_num, hP2, hb2⟩
            case measure => simp [intOf]; omega
          · have ht : ((i : Int) == (k : Int)) = false := by simp; omega
            have hck := hP2.at_ k hlk
            have hci := hP2.at_ i hlt
            obtain ⟨hrow, hrl⟩ := hP2.row hlk
            have hrl' := Lib.hid hrl
            clear hrl
            have hsk := hP2.size k hlk
            go_wp2_with fail
            refine (copy_u8 _ _ _ _ _ hrow hrl'.out (by omega)).mono ?_
            rintro e w1 ⟨v1, rfl, own1, bel1⟩
            have hP3 := hP2.below bel1
            have hb3 : Below B w w1 := hb2.trans (bel1.mono (Nat.le_trans hB hb2.size))
            have hck1 := hP3.at_ k hlk
            have hci1 := hP3.at_ i hlt
            have hwf := hrow.1
            rcases hP3.lies i hlt with ⟨hA, hN, hC⟩ | ⟨g, hA, hBg, hgl, hg⟩
            · rw [hA, hN, hC] at hci1
              clear hA hN hC hck hci hrow
              obtain ⟨A1, c1, rfl, row1, _, _⟩ := own1.row hwf
              rw [hrl'.out]
              obtain ⟨hrow3, hrl3⟩ := hP3.row hlk
              have hrl3' := Lib.hid hrl3
              clear hrl3
              go_wp2_with fail
              refine (spoil_nil _).mono ?_
              rintro e w' ⟨rfl, rfl⟩
              go_wp2_with fail
              refine (same_yes_u8 _ _ _ _ _ _ _ _ _ row1 hrow3 hrl3'.out (by omega)).mono ?_
              rintro e w' ⟨rfl, mq, rfl⟩
              have hP4 := hP3.below (w' := w1.drewN mq) ⟨rfl, rfl, rfl, Nat.le_refl _, fun _ _ => rfl⟩
              have hb4 : Below B w (w1.drewN mq) := hb3.trans ⟨rfl, rfl, rfl, Nat.le_refl _, fun _ _ => rfl⟩
              go_wp2
              go_roundw
              case rel => exact ⟨k + 1, l, by omega, by go_num, hP4, hb4⟩
              case measure => simp [intOf]; omega
            · have hsi := hP3.size i hlt
              have hglt : g < wr.heap.size := by
                rcases hP2.lies i hlt with ⟨h0, _⟩ | ⟨g', hA', _, _, hg'⟩
                · rw [hA] at h0; cases h0
                · rw [hA] at hA'
                  injection hA' with hA'
                  injection hA' with hA'
                  rw [hA']
                  exact block_lt hg'
              rw [hA] at hci1
              clear hck hci hrow
              have hsi3 := Lib.hid hsi.2.2
              go_wp2_with fail
              refine (spoilO_u8 g _ _ _ (p i) (l i) (r i) _ hg rfl hsi3.out hsi.1 hsi.2.1).mono ?_
              rintro e w2 ⟨rfl, hg2, hgr2, hsz2⟩
              have hP4 := hP3.spoil hlt hA hg2 hgr2
              have hb4 : Below B w w2 := hb3.grown hgr2 (Nat.le_trans hB hb3.size) (fun q e => by injection e; omega)
              have own2 := own1.kept hgr2 (by
                cases hv : v1.ownBlock with
                | none => exact .inl rfl
                | some q =>
                  refine .inr fun e => ?_
                  have h1 := (own1.block q hv).1
                  injection e with e
                  omega)
              have hck2 := hP4.at_ k hlk
              obtain ⟨hrow4, hrl4⟩ := hP4.row hlk
              simp only [if_neg (show ¬ k = i by omega)] at hrow4 hrl4
              have hrl4' := Lib.hid hrl4
              obtain ⟨A1, c1, rfl, row1, _, _⟩ := own2.row hwf
              rw [hrl'.out]
              clear hsz2 hrl4 hck1 hci1 hgr2 hg2 hg hA
              go_wp2_with fail
              refine (same_yes_u8 _ _ _ _ _ _ _ _ _ row1 hrow4 hrl4'.out (by omega)).mono ?_
              rintro e w' ⟨rfl, mq, rfl⟩
              have hP5 := hP4.below (w' := w2.drewN mq) ⟨rfl, rfl, rfl, Nat.le_refl _, fun _ _ => rfl⟩
              have hb5 : Below B w (w2.drewN mq) := hb4.trans ⟨rfl, rfl, rfl, Nat.le_refl _, fun _ _ => rfl⟩
              go_wp2
              go_roundw
              case rel => exact ⟨k + 1, _, by omega, by go_num, hP5, hb5⟩
              case measure => simp [intOf]; omega
        · go_wp2
          go_roundw
          case rel => exact ⟨i + 1, l, by omega, by go_num, hP2, hb2⟩
          case measure => simp [intOf]; omega
    · go_wp2
      go_ret
      exact ⟨rfl, hb1⟩

/-- A slice that is handed to ApartBytes: nil, or the beginning of a block that is known whole. -/
structure EntO where
  a : Option Nat
  p : List Int
  n : Nat
  c : Nat
  l : List Int
  r : List Int
def EntO.none_ : EntO := ⟨none, [], 0, 0, [], []⟩
def EntO.adr (e : EntO) : Option Addr := e.a.map fun g => ⟨g, e.p.length, none⟩
def EntO.val (e : EntO) : Value := .slice e.adr e.n e.c
structure EntO.Ok (w : World) (B : Nat) (e : EntO) : Prop where
  size : e.n ≤ e.c ∧ e.c ≤ 140737488355328 ∧ e.l.length = e.c
  wf : ∀ x ∈ e.l, (Lit.int .u8 x).wf = true
  lies : (e.a = none ∧ e.n = 0 ∧ e.c = 0) ∨ ∃ g, e.a = some g ∧ B ≤ g ∧ w.heap[g]? = some (.cells (blk .u8 (e.p ++ e.l ++ e.r)) 5 (0, 0))
def EntO.Far (e e' : EntO) : Prop := ∀ g, e.a = some g → e'.a ≠ some g
theorem EntO.adr_some {e : EntO} {g o : Nat} (h : e.adr = some ⟨g, o, none⟩) : e.a = some g := by
  unfold EntO.adr at h
  cases ha : e.a with
  | none => rw [ha] at h; cases h
  | some q => rw [ha] at h; simp at h; rw [h.1]

theorem partsO_of_list (w : World) (B : Nat) (L : List EntO) (t : TypeId) (hok : ∀ e ∈ L, e.Ok w B) (hfar : L.Pairwise EntO.Far) :
    PartsO (w.alloc (.cells (L.map EntO.val).toArray t)) B w.heap.size L.length (fun k => (L.getD k EntO.none_).adr) (fun k => (L.getD k EntO.none_).n) (fun k => (L.getD k EntO.none_).c) (fun k => (L.getD k EntO.none_).p) (fun k => (L.getD k EntO.none_).l) (fun k => (L.getD k EntO.none_).r) where
  at_ := fun k hk => by
    rw [World.cell?_alloc_at _ _ _ _ rfl]
    simp [List.getElem?_eq_getElem hk, List.getD_eq_getElem?_getD, EntO.val]
  size := fun k hk => by
    simp only [List.getD_eq_getElem?_getD, List.getElem?_eq_getElem hk, Option.getD_some]
    exact (hok _ (List.getElem_mem hk)).size
  wf := fun k hk => by
    simp only [List.getD_eq_getElem?_getD, List.getElem?_eq_getElem hk, Option.getD_some]
    exact (hok _ (List.getElem_mem hk)).wf
  lies := fun k hk => by
    simp only [List.getD_eq_getElem?_getD, List.getElem?_eq_getElem hk, Option.getD_some]
    rcases (hok _ (List.getElem_mem hk)).lies with ⟨h1, h2⟩ | ⟨g, h1, h2, h3⟩
    · exact .inl ⟨by rw [EntO.adr, h1]; rfl, h2⟩
    · have := block_lt h3
      exact .inr ⟨g, by rw [EntO.adr, h1]; rfl, h2, by omega, (Below.heap_alloc w _ g this).trans h3⟩
  apart := fun i k hi hk hne g o q h1 h2 => by
    simp only [List.getD_eq_getElem?_getD, List.getElem?_eq_getElem hi, List.getElem?_eq_getElem hk, Option.getD_some] at h1 h2
    have h1 := EntO.adr_some h1
    have h2 := EntO.adr_some h2
    rcases Nat.lt_or_gt_of_ne hne with h | h
    · exact List.pairwise_iff_getElem.1 hfar i k hi hk h g h1 h2
    · exact List.pairwise_iff_getElem.1 hfar k i hk hi h g h2 h1
  gl_lt := by simp

theorem apartO_list_u8 (w : World) (B : Nat) (L : List EntO) (t : TypeId) (hok : ∀ e ∈ L, e.Ok w B) (hfar : L.Pairwise EntO.Far) (hB : B ≤ w.heap.size) (hm : L.length ≤ 1000) :
    Calls Try.prog 16 #[.slice (some ⟨w.heap.size, 0, none⟩) L.length L.length] (w.alloc (.cells (L.map EntO.val).toArray t)) fun e w' => e = .returned (.bool true) ∧ Below B w w' :=
  (apartO_u8 _ _ B _ _ _ _ _ _ _ (partsO_of_list w B L t hok hfar) (by simp; omega) hm).mono fun _ _ ⟨he, hb⟩ => ⟨he, ((Below.refl B w).alloc hB _).trans hb⟩
end Go.Proofs.Ytobhllcnljggiaa
namespace Go.Proofs.Ytobhllcnljggiaa
open Go.RowKit
set_option linter.unusedVariables false
set_option maxHeartbeats 400000 in
theorem spoilK_u8 (g o n c : Nat) (p l r : List Int) (w : World) (hg : w.heap[g]? = some (.cells (blk .u8 (p ++ l ++ r)) 5 (0, 0))) (hp : p.length = o) (hl : l.length = c) (hn : n ≤ c) (hc : c ≤ 9223372036854775807) :
    Calls Try.prog 47 #[.slice (some ⟨g, o, none⟩) n c] w fun e w' => e = .returned (.tuple #[]) ∧ w'.heap[g]? = some (.cells (blk .u8 (p ++ spoil8 c l ++ r)) 5 (0, 0)) ∧ w.grownBy w' (some g) ∧ w'.heap.size = w.heap.size := by
  have hl' := Lib.hid hl
  have hp' := Lib.hid hp
  clear hl hp
  go_enter Try.func47, Try.ntmps47
  go_wp2
  go_loopw [3] (fun i wr => ∃ k : Nat, k ≤ c ∧ i = .int .i64 k ∧ Hid (wr.heap[g]? = some (.cells (blk .u8 (p ++ spoil8 k l ++ r)) 5 (0, 0))) ∧ w.grownBy wr (some g) ∧ Hid (wr.heap.size = w.heap.size)) (fun i _ => c - (intOf i).toNat)
  case atStart => exact ⟨0, by omega, rfl, Lib.hid (by rw [spoil8_zero]; exact hg), World.grownBy.refl _ _, Lib.hid rfl⟩
  case round =>
    obtain ⟨k, hk, rfl, hb, hgr, hsz⟩ := hrel
    by_cases hlt : k < c
    · have hc1 : wr.cell? ⟨g, o + k, none⟩ = some (.int .u8 (nth l k)) := by
        rw [cell_of_row wr g (o + k) _ _ _ hb.out, blk_get _ _ _ (by rw [List.length_append, List.length_append, spoil8_length, hl'.out, hp'.out]; omega), ← hp'.out, spoilO_at p l r k (by have := hl'.out; omega)]
      have hfz := block_frozen wr g (o + k) _ _ hb.out
      have hnew := Lib.hid (block_setCell wr g (o + k) .u8 5 _ (bits .xor .u8 (nth l k) 90) hb.out)
      rw [show (p ++ spoil8 k l ++ r).set (o + k) (bits .xor .u8 (nth l k) 90) = p ++ spoil8 (k + 1) l ++ r by rw [← hp'.out]; exact spoilO_set p l r k (by have := hl'.out; omega)] at hnew
      have hgr2 := grown_setCell hgr (o + k) (.int .u8 (bits .xor .u8 (nth l k) 90))
      have hsz2 : Hid ((wr.setCell ⟨g, o + k, none⟩ (.int .u8 (bits .xor .u8 (nth l k) 90))).heap.size = w.heap.size) := by
        show _ = _
        rw [← hsz.out]; simp [World.setCell]
      go_wp2
      go_roundw
      case rel => exact ⟨k + 1, by omega, by go_num, hnew, hgr2, hsz2⟩
      case measure => simp [intOf]; omega
    · obtain rfl : k = c := by omega
      go_wp2
      go_end0
      exact ⟨rfl, hb.out, hgr, hsz.out⟩
/-- Rows that lie inside blocks of their own, each known whole (or nil), their slices in the array of block gl. -/
structure PartsK (w : World) (B gl m : Nat) (A : Nat → Option Addr) (n c : Nat → Nat) (p l r : Nat → List Int) : Prop where
  at_ : ∀ k, k < m → w.cell? ⟨gl, k, none⟩ = some (.slice (A k) (n k) (c k))
  size : ∀ k, k < m → n k ≤ c k ∧ (c k ≤ 9223372036854775807 ∧ n k ≤ 140737488355328) ∧ (l k).length = c k
  wf : ∀ k, k < m → ∀ x ∈ l k, (Lit.int .u8 x).wf = true
  lies : ∀ k, k < m → (A k = none ∧ n k = 0 ∧ c k = 0) ∨ ∃ g, A k = some ⟨g, (p k).length, none⟩ ∧ B ≤ g ∧ g ≠ gl ∧ w.heap[g]? = some (.cells (blk .u8 (p k ++ l k ++ r k)) 5 (0, 0))
  apart : ∀ i k, i < m → k < m → i ≠ k → ∀ g o q, A i = some ⟨g, o, none⟩ → A k ≠ some ⟨g, q, none⟩
  gl_lt : gl < w.heap.size

theorem PartsK.row {w : World} {B gl m : Nat} {A : Nat → Option Addr} {n c : Nat → Nat} {p l r : Nat → List Int} (h : PartsK w B gl m A n c p l r) {k : Nat} (hk : k < m) :
    Row .u8 w w.heap.size (A k) ((l k).take (n k)) ∧ ((l k).take (n k)).length = n k := by
  have hs := h.size k hk
  refine ⟨?_, by simp; omega⟩
  rcases h.lies k hk with ⟨ha, hn, hc⟩ | ⟨g, ha, _, _, hg⟩
  · rw [hn, List.take_zero]; exact Row.nil _ _ _ _
  · rw [ha]
    exact (Row.inside hg _ (fun x hx => h.wf k hk x (List.mem_of_mem_take hx)) (List.take_prefix _ _)).more (block_lt hg)
/-- A step that leaves all old blocks leaves the parts. -/
theorem PartsK.below {w w' : World} {B gl m : Nat} {A : Nat → Option Addr} {n c : Nat → Nat} {p l r : Nat → List Int} (h : PartsK w B gl m A n c p l r) (hb : Below w.heap.size w w') : PartsK w' B gl m A n c p l r where
  at_ := fun k hk => (hb.cell (p := ⟨gl, k, none⟩) h.gl_lt).trans (h.at_ k hk)
  size := h.size
  wf := h.wf
  lies := fun k hk => by
    rcases h.lies k hk with h0 | ⟨g, ha, hB, hne, hg⟩
    · exact .inl h0
    · exact .inr ⟨g, ha, hB, hne, (hb.block g (block_lt hg)).trans hg⟩
  apart := h.apart
  gl_lt := Nat.lt_of_lt_of_le h.gl_lt hb.size
/-- One part is written over. -/
theorem PartsK.spoil {w w' : World} {B gl m : Nat} {A : Nat → Option Addr} {n c : Nat → Nat} {p l r : Nat → List Int} (h : PartsK w B gl m A n c p l r) {i g : Nat} (hi : i < m) (ha : A i = some ⟨g, (p i).length, none⟩)
    (hg : w'.heap[g]? = some (.cells (blk .u8 (p i ++ spoil8 (c i) (l i) ++ r i)) 5 (0, 0))) (hgr : w.grownBy w' (some g)) : PartsK w' B gl m A n c p (fun k => if k = i then spoil8 (c i) (l i) else l k) r where
  at_ := fun k hk => by
    rcases h.lies i hi with ⟨h0, _⟩ | ⟨g', ha', _, hne, _⟩
    · rw [ha] at h0; cases h0
    · rw [ha] at ha'
      injection ha' with ha'
      injection ha' with ha'
      subst ha'
      exact (World.cell?_of_block (hgr.block gl h.gl_lt (fun e => hne (by injection e with e; exact e.symm)))).trans (h.at_ k hk)
  size := fun k hk => by
    have := h.size k hk
    refine ⟨this.1, this.2.1, ?_⟩
    split
    · rename_i e; subst e; rw [spoil8_length]; exact this.2.2
    · exact this.2.2
  wf := fun k hk => by
    show ∀ x ∈ (if k = i then spoil8 (c i) (l i) else l k), _
    split
    · exact spoil8_wf _ _ (h.wf i hi)
    · exact h.wf k hk
  lies := fun k hk => by
    by_cases e : k = i
    · subst e
      rcases h.lies k hi with ⟨h0, _⟩ | ⟨g', ha', hB, hne, _⟩
      · rw [ha] at h0; cases h0
      · rw [ha] at ha'
        injection ha' with ha'
        injection ha' with ha'
        subst ha'
        exact .inr ⟨g, ha, hB, hne, by rw [if_pos rfl]; exact hg⟩
    · rcases h.lies k hk with h0 | ⟨g', ha', hB, hne, hg'⟩
      · exact .inl h0
      · refine .inr ⟨g', ha', hB, hne, ?_⟩
        rw [if_neg e, hgr.block g' (block_lt hg') (fun e' => ?_)]
        · exact hg'
        · injection e' with e'
          subst e'
          exact h.apart k i hk hi e _ _ _ ha' ha
  apart := h.apart
  gl_lt := Nat.lt_of_lt_of_le h.gl_lt hgr.size

set_option maxHeartbeats 1000000 in
theorem apartK_u8 (gl m B : Nat) (A : Nat → Option Addr) (n c : Nat → Nat) (p l0 r : Nat → List Int) (w : World) (hP : PartsK w B gl m A n c p l0 r) (hB : B ≤ w.heap.size) (hm : m ≤ 1000) :
    Calls Try.prog 16 #[.slice (some ⟨gl, 0, none⟩) m m] w fun e w' => e = .returned (.bool true) ∧ Below B w w' := by
  go_enter Try.func16, Try.ntmps16
  go_wp2
  go_loopw [3, 4, 5] (fun i _ _ wr => ∃ (j : Nat) (l : Nat → List Int), j ≤ m ∧ i = .int .i64 j ∧ PartsK wr B gl m A n c p l r ∧ Below B w wr) (fun i _ _ _ => m - (intOf i).toNat)
  case atStart => exact ⟨0, l0, by omega, rfl, hP, Below.refl _ _⟩
  case round =>
    obtain ⟨i, l1, hi, rfl, hP1, hb1⟩ := hrel
    by_cases hlt : i < m
    · go_wp2
      obtain ⟨wo, hwo⟩ : ∃ wo : World, wo = wr := ⟨_, rfl⟩
      subst hwo
      go_loopw [4, 5] (fun k _ wr => ∃ (j : Nat) (l : Nat → List Int), j ≤ m ∧ k = .int .i64 j ∧ PartsK wr B gl m A n c p l r ∧ Below B w wr) (fun k _ _ => m - (intOf k).toNat)
      case atStart => exact ⟨0, l1, by omega, rfl, hP1, hb1⟩
      case round =>
        obtain ⟨k, l, hk, rfl, hP2, hb2⟩ := hrel
        by_cases hlk : k < m
        · by_cases hik : i = k
          · subst hik
            go_wp2
            go_roundw
            case rel => exact ⟨i + 1, l, by omega, by go_num, hP2, hb2⟩
            case measure => simp [intOf]; omega
          · have ht : ((i : Int) == (k : Int)) = false := by simp; omega
            have hck := hP2.at_ k hlk
            have hci := hP2.at_ i hlt
            obtain ⟨hrow, hrl⟩ := hP2.row hlk
            have hrl' := Lib.hid hrl
            clear hrl
            have hsk := hP2.size k hlk
            go_wp2_with fail
            refine (copy_u8 _ _ _ _ _ hrow hrl'.out (by omega)).mono ?_
            rintro e w1 ⟨v1, rfl, own1, bel1⟩
            have hP3 := hP2.below bel1
            have hb3 : Below B w w1 := hb2.trans (bel1.mono (Nat.le_trans hB hb2.size))
            have hck1 := hP3.at_ k hlk
            have hci1 := hP3.at_ i hlt
            have hwf := hrow.1
            rcases hP3.lies i hlt with ⟨hA, hN, hC⟩ | ⟨g, hA, hBg, hgl, hg⟩
            · rw [hA, hN, hC] at hci1
              clear hA hN hC hck hci hrow
              obtain ⟨A1, c1, rfl, row1, _, _⟩ := own1.row hwf
              rw [hrl'.out]
              obtain ⟨hrow3, hrl3⟩ := hP3.row hlk
              have hrl3' := Lib.hid hrl3
              clear hrl3
              go_wp2_with fail
              refine (spoil_nil _).mono ?_
              rintro e w' ⟨rfl, rfl⟩
              go_wp2_with fail
              refine (same_yes_u8 _ _ _ _ _ _ _ _ _ row1 hrow3 hrl3'.out (by omega)).mono ?_
              rintro e w' ⟨rfl, mq, rfl⟩
              have hP4 := hP3.below (w' := w1.drewN mq) ⟨rfl, rfl, rfl, Nat.le_refl _, fun _ _ => rfl⟩
              have hb4 : Below B w (w1.drewN mq) := hb3.trans ⟨rfl, rfl, rfl, Nat.le_refl _, fun _ _ => rfl⟩
              go_wp2
              go_roundw
              case rel => exact ⟨k + 1, l, by omega, by go_num, hP4, hb4⟩
              case measure => simp [intOf]; omega
            · have hsi := hP3.size i hlt
              have hglt : g < wr.heap.size := by
                rcases hP2.lies i hlt with ⟨h0, _⟩ | ⟨g', hA', _, _, hg'⟩
                · rw [hA] at h0; cases h0
                · rw [hA] at hA'
                  injection hA' with hA'
                  injection hA' with hA'
                  rw [hA']
                  exact block_lt hg'
              rw [hA] at hci1
              clear hck hci hrow
              have hsi3 := Lib.hid hsi.2.2
              go_wp2_with fail
              refine (spoilK_u8 g _ _ _ (p i) (l i) (r i) _ hg rfl hsi3.out hsi.1 hsi.2.1.1).mono ?_
              rintro e w2 ⟨rfl, hg2, hgr2, hsz2⟩
              have hP4 := hP3.spoil hlt hA hg2 hgr2
              have hb4 : Below B w w2 := hb3.grown hgr2 (Nat.le_trans hB hb3.size) (fun q e => by injection e; omega)
              have own2 := own1.kept hgr2 (by
                cases hv : v1.ownBlock with
                | none => exact .inl rfl
                | some q =>
                  refine .inr fun e => ?_
                  have h1 := (own1.block q hv).1
                  injection e with e
                  omega)
              have hck2 := hP4.at_ k hlk
              obtain ⟨hrow4, hrl4⟩ := hP4.row hlk
              simp only [if_neg (show ¬ k = i by omega)] at hrow4 hrl4
              have hrl4' := Lib.hid hrl4
              obtain ⟨A1, c1, rfl, row1, _, _⟩ := own2.row hwf
              rw [hrl'.out]
              clear hsz2 hrl4 hck1 hci1 hgr2 hg2 hg hA
              go_wp2_with fail
              refine (same_yes_u8 _ _ _ _ _ _ _ _ _ row1 hrow4 hrl4'.out (by omega)).mono ?_
              rintro e w' ⟨rfl, mq, rfl⟩
              have hP5 := hP4.below (w' := w2.drewN mq) ⟨rfl, rfl, rfl, Nat.le_refl _, fun _ _ => rfl⟩
              have hb5 : Below B w (w2.drewN mq) := hb4.trans ⟨rfl, rfl, rfl, Nat.le_refl _, fun _ _ => rfl⟩
              go_wp2
              go_roundw
              case rel => exact ⟨k + 1, _, by omega, by go_num, hP5, hb5⟩
              case measure => simp [intOf]; omega
        · go_wp2
          go_roundw
          case rel => exact ⟨i + 1, l, by omega, by go_num, hP2, hb2⟩
          case measure => simp [intOf]; omega
    · go_wp2
      go_ret
      exact ⟨rfl, hb1⟩

/-- A slice that is handed to ApartBytes: nil, or the beginning of a block that is known whole. -/
structure EntK where
  a : Option Nat
  p : List Int
  n : Nat
  c : Nat
  l : List Int
  r : List Int
def EntK.none_ : EntK := ⟨none, [], 0, 0, [], []⟩
def EntK.adr (e : EntK) : Option Addr := e.a.map fun g => ⟨g, e.p.length, none⟩
def EntK.val (e : EntK) : Value := .slice e.adr e.n e.c
structure EntK.Ok (w : World) (B : Nat) (e : EntK) : Prop where
  size : e.n ≤ e.c ∧ (e.c ≤ 9223372036854775807 ∧ e.n ≤ 140737488355328) ∧ e.l.length = e.c
  wf : ∀ x ∈ e.l, (Lit.int .u8 x).wf = true
  lies : (e.a = none ∧ e.n = 0 ∧ e.c = 0) ∨ ∃ g, e.a = some g ∧ B ≤ g ∧ w.heap[g]? = some (.cells (blk .u8 (e.p ++ e.l ++ e.r)) 5 (0, 0))
def EntK.Far (e e' : EntK) : Prop := ∀ g, e.a = some g → e'.a ≠ some g
theorem EntK.adr_some {e : EntK} {g o : Nat} (h : e.adr = some ⟨g, o, none⟩) : e.a = some g := by
  unfold EntK.adr at h
  cases ha : e.a with
  | none => rw [ha] at h; cases h
  | some q => rw [ha] at h; simp at h; rw [h.1]

theorem partsK_of_list (w : World) (B : Nat) (L : List EntK) (t : TypeId) (hok : ∀ e ∈ L, e.Ok w B) (hfar : L.Pairwise EntK.Far) :
    PartsK (w.alloc (.cells (L.map EntK.val).toArray t)) B w.heap.size L.length (fun k => (L.getD k EntK.none_).adr) (fun k => (L.getD k EntK.none_).n) (fun k => (L.getD k EntK.none_).c) (fun k => (L.getD k EntK.none_).p) (fun k => (L.getD k EntK.none_).l) (fun k => (L.getD k EntK.none_).r) where
  at_ := fun k hk => by
    rw [World.cell?_alloc_at _ _ _ _ rfl]
    simp [List.getElem?_eq_getElem hk, List.getD_eq_getElem?_getD, EntK.val]
  size := fun k hk => by
    simp only [List.getD_eq_getElem?_getD, List.getElem?_eq_getElem hk, Option.getD_some]
    exact (hok _ (List.getElem_mem hk)).size
  wf := fun k hk => by
    simp only [List.getD_eq_getElem?_getD, List.getElem?_eq_getElem hk, Option.getD_some]
    exact (hok _ (List.getElem_mem hk)).wf
  lies := fun k hk => by
    simp only [List.getD_eq_getElem?_getD, List.getElem?_eq_getElem hk, Option.getD_some]
    rcases (hok _ (List.getElem_mem hk)).lies with ⟨h1, h2⟩ | ⟨g, h1, h2, h3⟩
    · exact .inl ⟨by rw [EntK.adr, h1]; rfl, h2⟩
    · have := block_lt h3
      exact .inr ⟨g, by rw [EntK.adr, h1]; rfl, h2, by omega, (Below.heap_alloc w _ g this).trans h3⟩
  apart := fun i k hi hk hne g o q h1 h2 => by
    simp only [List.getD_eq_getElem?_getD, List.getElem?_eq_getElem hi, List.getElem?_eq_getElem hk, Option.getD_some] at h1 h2
    have h1 := EntK.adr_some h1
    have h2 := EntK.adr_some h2
    rcases Nat.lt_or_gt_of_ne hne with h | h
    · exact List.pairwise_iff_getElem.1 hfar i k hi hk h g h1 h2
    · exact List.pairwise_iff_getElem.1 hfar k i hk hi h g h2 h1
  gl_lt := by simp

theorem apartK_list_u8 (w : World) (B : Nat) (L : List EntK) (t : TypeId) (hok : ∀ e ∈ L, e.Ok w B) (hfar : L.Pairwise EntK.Far) (hB : B ≤ w.heap.size) (hm : L.length ≤ 1000) :
    Calls Try.prog 16 #[.slice (some ⟨w.heap.size, 0, none⟩) L.length L.length] (w.alloc (.cells (L.map EntK.val).toArray t)) fun e w' => e = .returned (.bool true) ∧ Below B w w' :=
  (apartK_u8 _ _ B _ _ _ _ _ _ _ (partsK_of_list w B L t hok hfar) (by simp; omega) hm).mono fun _ _ ⟨he, hb⟩ => ⟨he, ((Below.refl B w).alloc hB _).trans hb⟩
end Go.Proofs.Ytobhllcnljggiaa
