/-
  Contracts of SpoilWords and ApartWords: rows in blocks of their own are written over one by one.
-/
import Derived.Test.YtcnidddneiekfaaCopyW
import Derived.Test.YtcnidddneiekfaaBlock
import Derived.Test.YtcnidddneiekfaaSpoilW
namespace Go.Proofs.Ytcnidddneiekfaa.W
open Go.RowKit
set_option linter.unusedVariables false
/-- Rows that lie in blocks of their own, each known whole (or nil), their slices in the array of block gl. -/
structure Parts (w : World) (B gl m : Nat) (A : Nat → Option Addr) (n c : Nat → Nat) (l r : Nat → List Int) : Prop where
  at_ : ∀ k, k < m → w.cell? ⟨gl, k, none⟩ = some (.slice (A k) (n k) (c k))
  size : ∀ k, k < m → n k ≤ c k ∧ c k ≤ 70368744177664 ∧ (l k).length = c k
  wf : ∀ k, k < m → ∀ x ∈ l k, (Lit.int .u16 x).wf = true
  lies : ∀ k, k < m → (A k = none ∧ n k = 0 ∧ c k = 0) ∨ ∃ g, A k = some ⟨g, 0, none⟩ ∧ B ≤ g ∧ g ≠ gl ∧ w.heap[g]? = some (.cells (blk .u16 (l k ++ r k)) 41 (0, 0))
  apart : ∀ i k, i < m → k < m → i ≠ k → ∀ g, A i = some ⟨g, 0, none⟩ → A k ≠ some ⟨g, 0, none⟩
  gl_lt : gl < w.heap.size

theorem Parts.row {w : World} {B gl m : Nat} {A : Nat → Option Addr} {n c : Nat → Nat} {l r : Nat → List Int} (h : Parts w B gl m A n c l r) {k : Nat} (hk : k < m) :
    Row .u16 w w.heap.size (A k) ((l k).take (n k)) ∧ ((l k).take (n k)).length = n k := by
  have hs := h.size k hk
  refine ⟨?_, by simp; omega⟩
  rcases h.lies k hk with ⟨ha, hn, hc⟩ | ⟨g, ha, _, _, hg⟩
  · rw [hn, List.take_zero]; exact Row.nil _ _ _ _
  · rw [ha]
    exact (Row.of_block hg _ (fun x hx => h.wf k hk x (List.mem_of_mem_take hx)) ((List.take_prefix _ _).trans (List.prefix_append _ _))).more (block_lt hg)
/-- A step that leaves all old blocks leaves the parts. -/
theorem Parts.below {w w' : World} {B gl m : Nat} {A : Nat → Option Addr} {n c : Nat → Nat} {l r : Nat → List Int} (h : Parts w B gl m A n c l r) (hb : Below w.heap.size w w') : Parts w' B gl m A n c l r where
  at_ := fun k hk => (hb.cell (p := ⟨gl, k, none⟩) h.gl_lt).trans (h.at_ k hk)
  size := h.size
  wf := h.wf
  lies := fun k hk => by
    rcases h.lies k hk with h0 | ⟨g, ha, hB, hne, hg⟩
    · exact .inl h0
    · exact .inr ⟨g, ha, hB, hne, (hb.block g (block_lt hg)).trans hg⟩
  apart := h.apart
  gl_lt := Nat.lt_of_lt_of_le h.gl_lt hb.size
/-- One part is written over. -/
theorem Parts.spoil {w w' : World} {B gl m : Nat} {A : Nat → Option Addr} {n c : Nat → Nat} {l r : Nat → List Int} (h : Parts w B gl m A n c l r) {i g : Nat} (hi : i < m) (ha : A i = some ⟨g, 0, none⟩)
    (hg : w'.heap[g]? = some (.cells (blk .u16 (spoil16 (c i) (l i) ++ r i)) 41 (0, 0))) (hgr : w.grownBy w' (some g)) : Parts w' B gl m A n c (fun k => if k = i then spoil16 (c i) (l i) else l k) r where
  at_ := fun k hk => by
    rcases h.lies i hi with ⟨h0, _⟩ | ⟨g', ha', _, hne, _⟩
    · rw [ha] at h0; cases h0
    · rw [ha] at ha'
      injection ha' with ha'
      injection ha' with ha'
      subst ha'
      exact (World.cell?_of_block (hgr.block gl h.gl_lt (fun e => hne (by injection e with e; exact e.symm)))).trans (h.at_ k hk)
  size := fun k hk => by
    have := h.size k hk
    refine ⟨this.1, this.2.1, ?_⟩
    split
    · rename_i e; subst e; rw [spoil16_length]; exact this.2.2
    · exact this.2.2
  wf := fun k hk => by
    show ∀ x ∈ (if k = i then spoil16 (c i) (l i) else l k), _
    split
    · exact spoil16_wf _ _ (h.wf i hi)
    · exact h.wf k hk
  lies := fun k hk => by
    by_cases e : k = i
    · subst e
      rcases h.lies k hi with ⟨h0, _⟩ | ⟨g', ha', hB, hne, _⟩
      · rw [ha] at h0; cases h0
      · rw [ha] at ha'
        injection ha' with ha'
        injection ha' with ha'
        subst ha'
        exact .inr ⟨g, ha, hB, hne, by rw [if_pos rfl]; exact hg⟩
    · rcases h.lies k hk with h0 | ⟨g', ha', hB, hne, hg'⟩
      · exact .inl h0
      · refine .inr ⟨g', ha', hB, hne, ?_⟩
        rw [if_neg e, hgr.block g' (block_lt hg') (fun e' => ?_)]
        · exact hg'
        · injection e' with e'
          subst e'
          exact h.apart k i hk hi e _ ha' ha
  apart := h.apart
  gl_lt := Nat.lt_of_lt_of_le h.gl_lt hgr.size

set_option maxHeartbeats 1000000 in
theorem apart_u16 (gl m B : Nat) (A : Nat → Option Addr) (n c : Nat → Nat) (l0 r : Nat → List Int) (w : World) (hP : Parts w B gl m A n c l0 r) (hB : B ≤ w.heap.size) (hm : m ≤ 1000) :
    Calls Try.prog 21 #[.slice (some ⟨gl, 0, none⟩) m m] w fun e w' => e = .returned (.bool true) ∧ Below B w w' := by
  go_enter Try.func21, Try.ntmps21
  go_wp2
  go_loopw [3, 4, 5] (fun i _ _ wr => ∃ (j : Nat) (l : Nat → List Int), j ≤ m ∧ i = .int .i64 j ∧ Parts wr B gl m A n c l r ∧ Below B w wr) (fun i _ _ _ => m - (intOf i).toNat)
  case atStart => exact ⟨0, l0, by omega, rfl, hP, Below.refl _ _⟩
  case round =>
    obtain ⟨i, l1, hi, rfl, hP1, hb1⟩ := hrel
    by_cases hlt : i < m
    · go_wp2
      obtain ⟨wo, hwo⟩ : ∃ wo : World, wo = wr := ⟨_, rfl⟩
      subst hwo
      go_loopw [4, 5] (fun k _ wr => ∃ (j : Nat) (l : Nat → List Int), j ≤ m ∧ k = .int .i64 j ∧ Parts wr B gl m A n c l r ∧ Below B w wr) (fun k _ _ => m - (intOf k).toNat)
      case atStart => exact ⟨0, l1, by omega, rfl, hP1, hb1⟩
      case round =>
        obtain ⟨k, l, hk, rfl, hP2, hb2⟩ := hrel
        by_cases hlk : k < m
        · by_cases hik : i = k
          · subst hik
            go_wp2
            go_roundw
            case rel => exact ⟨i + 1, l, by omega, by go_num, hP2, hb2⟩
            case measure => simp [intOf]; omega
          · have ht : ((i : Int) == (k : Int)) = false := by simp; omega
            have hck := hP2.at_ k hlk
            have hci := hP2.at_ i hlt
            obtain ⟨hrow, hrl⟩ := hP2.row hlk
            have hrl' := Lib.hid hrl
            clear hrl
            have hsk := hP2.size k hlk
            go_wp2_with fail
            refine (copy_u16 _ _ _ _ _ hrow hrl'.out (by omega)).mono ?_
            rintro e w1 ⟨v1, rfl, own1, bel1⟩
            have hP3 := hP2.below bel1
            have hb3 : Below B w w1 := hb2.trans (bel1.mono (Nat.le_trans hB hb2.size))
            have hck1 := hP3.at_ k hlk
            have hci1 := hP3.at_ i hlt
            have hwf := hrow.1
            rcases hP3.lies i hlt with ⟨hA, hN, hC⟩ | ⟨g, hA, hBg, hgl, hg⟩
            · rw [hA, hN, hC] at hci1
              clear hA hN hC hck hci hrow
              obtain ⟨A1, c1, rfl, row1, _, _⟩ := own1.row hwf
              rw [hrl'.out]
              obtain ⟨hrow3, hrl3⟩ := hP3.row hlk
              have hrl3' := Lib.hid hrl3
              clear hrl3
              go_wp2_with fail
              refine (spoil_nil _).mono ?_
              rintro e w' ⟨rfl, rfl⟩
              go_wp2_with fail
              refine (same_yes_u16 _ _ _ _ _ _ _ _ _ row1 hrow3 hrl3'.out (by omega)).mono ?_
              rintro e w' ⟨rfl, mq, rfl⟩
              have hP4 := hP3.below (w' := w1.drewN mq) ⟨rfl, rfl, rfl, Nat.le_refl _, fun _ _ => rfl⟩
              have hb4 : Below B w (w1.drewN mq) := hb3.trans ⟨rfl, rfl, rfl, Nat.le_refl _, fun _ _ => rfl⟩
              go_wp2
              go_roundw
              case rel => exact ⟨k + 1, l, by omega, by go_num, hP4, hb4⟩
              case measure => simp [intOf]; omega
            · have hsi := hP3.size i hlt
              have hglt : g < wr.heap.size := by
                rcases hP2.lies i hlt with ⟨h0, _⟩ | ⟨g', hA', _, _, hg'⟩
                · rw [hA] at h0; cases h0
                · rw [hA] at hA'
                  injection hA' with hA'
                  injection hA' with hA'
                  rw [hA']
                  exact block_lt hg'
              rw [hA] at hci1
              clear hck hci hrow
              have hsi3 := Lib.hid hsi.2.2
              go_wp2_with fail
              refine (spoil_u16 g _ _ (l i) (r i) _ hg hsi3.out hsi.1 hsi.2.1).mono ?_
              rintro e w2 ⟨rfl, hg2, hgr2, hsz2⟩
              have hP4 := hP3.spoil hlt hA hg2 hgr2
              have hb4 : Below B w w2 := hb3.grown hgr2 (Nat.le_trans hB hb3.size) (fun q e => by injection e; omega)
              have own2 := own1.kept hgr2 (by
                cases hv : v1.ownBlock with
                | none => exact .inl rfl
                | some q =>
                  refine .inr fun e => ?_
                  have h1 := (own1.block q hv).1
                  injection e with e
                  omega)
              have hck2 := hP4.at_ k hlk
              obtain ⟨hrow4, hrl4⟩ := hP4.row hlk
              simp only [if_neg (show ¬ k = i by omega)] at hrow4 hrl4
              have hrl4' := Lib.hid hrl4
              obtain ⟨A1, c1, rfl, row1, _, _⟩ := own2.row hwf
              rw [hrl'.out]
              clear hsz2 hrl4 hck1 hci1 hgr2 hg2 hg hA
              go_wp2_with fail
              refine (same_yes_u16 _ _ _ _ _ _ _ _ _ row1 hrow4 hrl4'.out (by omega)).mono ?_
              rintro e w' ⟨rfl, mq, rfl⟩
              have hP5 := hP4.below (w' := w2.drewN mq) ⟨rfl, rfl, rfl, Nat.le_refl _, fun _ _ => rfl⟩
              have hb5 : Below B w (w2.drewN mq) := hb4.trans ⟨rfl, rfl, rfl, Nat.le_refl _, fun _ _ => rfl⟩
              go_wp2
              go_roundw
              case rel => exact ⟨k + 1, _, by omega, by go_num, hP5, hb5⟩
              case measure => simp [intOf]; omega
        · go_wp2
          go_roundw
          case rel => exact ⟨i + 1, l, by omega, by go_num, hP2, hb2⟩
          case measure => simp [intOf]; omega
    · go_wp2
      go_ret
      exact ⟨rfl, hb1⟩

/-- A slice that is handed to ApartWords: nil, or the beginning of a block that is known whole. -/
structure Ent where
  a : Option Nat
  n : Nat
  c : Nat
  l : List Int
  r : List Int
def Ent.none_ : Ent := ⟨none, 0, 0, [], []⟩
def Ent.adr (e : Ent) : Option Addr := e.a.map fun g => ⟨g, 0, none⟩
def Ent.val (e : Ent) : Value := .slice e.adr e.n e.c
structure Ent.Ok (w : World) (B : Nat) (e : Ent) : Prop where
  size : e.n ≤ e.c ∧ e.c ≤ 70368744177664 ∧ e.l.length = e.c
  wf : ∀ x ∈ e.l, (Lit.int .u16 x).wf = true
  lies : (e.a = none ∧ e.n = 0 ∧ e.c = 0) ∨ ∃ g, e.a = some g ∧ B ≤ g ∧ w.heap[g]? = some (.cells (blk .u16 (e.l ++ e.r)) 41 (0, 0))
def Ent.Far (e e' : Ent) : Prop := ∀ g, e.a = some g → e'.a ≠ some g
theorem Ent.adr_some {e : Ent} {g : Nat} (h : e.adr = some ⟨g, 0, none⟩) : e.a = some g := by
  unfold Ent.adr at h
  cases ha : e.a with
  | none => rw [ha] at h; cases h
  | some q => rw [ha] at h; simp at h; rw [h]

theorem parts_of_list (w : World) (B : Nat) (L : List Ent) (t : TypeId) (hok : ∀ e ∈ L, e.Ok w B) (hfar : L.Pairwise Ent.Far) :
    Parts (w.alloc (.cells (L.map Ent.val).toArray t)) B w.heap.size L.length (fun k => (L.getD k Ent.none_).adr) (fun k => (L.getD k Ent.none_).n) (fun k => (L.getD k Ent.none_).c) (fun k => (L.getD k Ent.none_).l) (fun k => (L.getD k Ent.none_).r) where
  at_ := fun k hk => by
    rw [World.cell?_alloc_at _ _ _ _ rfl]
    simp [List.getElem?_eq_getElem hk, List.getD_eq_getElem?_getD, Ent.val]
  size := fun k hk => by
    simp only [List.getD_eq_getElem?_getD, List.getElem?_eq_getElem hk, Option.getD_some]
    exact (hok _ (List.getElem_mem hk)).size
  wf := fun k hk => by
    simp only [List.getD_eq_getElem?_getD, List.getElem?_eq_getElem hk, Option.getD_some]
    exact (hok _ (List.getElem_mem hk)).wf
  lies := fun k hk => by
    simp only [List.getD_eq_getElem?_getD, List.getElem?_eq_getElem hk, Option.getD_some]
    rcases (hok _ (List.getElem_mem hk)).lies with ⟨h1, h2⟩ | ⟨g, h1, h2, h3⟩
    · exact .inl ⟨by rw [Ent.adr, h1]; rfl, h2⟩
    · have := block_lt h3
      exact .inr ⟨g, by rw [Ent.adr, h1]; rfl, h2, by omega, (Below.heap_alloc w _ g this).trans h3⟩
  apart := fun i k hi hk hne g h1 h2 => by
    simp only [List.getD_eq_getElem?_getD, List.getElem?_eq_getElem hi, List.getElem?_eq_getElem hk, Option.getD_some] at h1 h2
    have h1 := Ent.adr_some h1
    have h2 := Ent.adr_some h2
    rcases Nat.lt_or_gt_of_ne hne with h | h
    · exact List.pairwise_iff_getElem.1 hfar i k hi hk h g h1 h2
    · exact List.pairwise_iff_getElem.1 hfar k i hk hi h g h2 h1
  gl_lt := by simp

theorem apart_list_u16 (w : World) (B : Nat) (L : List Ent) (t : TypeId) (hok : ∀ e ∈ L, e.Ok w B) (hfar : L.Pairwise Ent.Far) (hB : B ≤ w.heap.size) (hm : L.length ≤ 1000) :
    Calls Try.prog 21 #[.slice (some ⟨w.heap.size, 0, none⟩) L.length L.length] (w.alloc (.cells (L.map Ent.val).toArray t)) fun e w' => e = .returned (.bool true) ∧ Below B w w' :=
  (apart_u16 _ _ B _ _ _ _ _ _ (parts_of_list w B L t hok hfar) (by simp; omega) hm).mono fun _ _ ⟨he, hb⟩ => ⟨he, ((Below.refl B w).alloc hB _).trans hb⟩
end Go.Proofs.Ytcnidddneiekfaa.W
