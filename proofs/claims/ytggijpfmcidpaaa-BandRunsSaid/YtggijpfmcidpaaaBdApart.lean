/-
  Contracts of SpoilPoints and ApartPoints: lists of points in blocks of their own are written over one by one.
-/
import Derived.Test.YtggijpfmcidpaaaBdOwn
import Derived.Laws.BitsAllLaws
namespace Go.Proofs.Ytggijpfmcidpaaa
open Go.RowKit
set_option linter.unusedVariables false

/-- A point written over. -/
def spoil1 (p : Pt) : Pt := (bits .xor .i64 p.2 77, bits .xor .i64 p.1 77)
theorem wrap_in (n : Int) : -9223372036854775808 ≤ IntKind.i64.wrap n ∧ IntKind.i64.wrap n < 9223372036854775808 := by rw [IntKind.wrap_i64]; omega
theorem spoil1_ok (p : Pt) : Pt.Ok (spoil1 p) := ⟨wrap_in _, wrap_in _⟩
/-- A list with each point written over, up to a place. -/
def spoilT (k : Nat) (l : List Pt) : List Pt := (l.take k).map spoil1 ++ l.drop k
theorem spoilT_length (k : Nat) (l : List Pt) : (spoilT k l).length = l.length := by simp [spoilT]; omega
theorem spoilT_zero (l : List Pt) : spoilT 0 l = l := by simp [spoilT]
theorem spoilT_ok (l : List Pt) (k : Nat) (hk : l.length ≤ k) : ∀ p ∈ spoilT k l, Pt.Ok p := by
  intro p hp
  rw [spoilT, List.drop_eq_nil_of_le hk, List.append_nil] at hp
  obtain ⟨q, _, rfl⟩ := List.mem_map.1 hp
  exact spoil1_ok q
theorem pt_of (l : List Pt) (k : Nat) : (ptX l k, ptY l k) = l.getD k (0, 0) := rfl
theorem spoilT_at (k : Nat) (l : List Pt) (hk : k < l.length) : (spoilT k l).getD k (0, 0) = l.getD k (0, 0) := by
  have hl : ((l.take k).map spoil1).length = k := by simp; omega
  rw [spoilT, List.getD_eq_getElem?_getD, List.getElem?_append_right (by omega), hl, Nat.sub_self, List.getElem?_drop, Nat.add_zero, ← List.getD_eq_getElem?_getD]
theorem spoilT_x (k : Nat) (l : List Pt) (hk : k < l.length) : ptX (spoilT k l) k = ptX l k := by rw [ptX, spoilT_at k l hk]; rfl
theorem spoilT_y (k : Nat) (l : List Pt) (hk : k < l.length) : ptY (spoilT k l) k = ptY l k := by rw [ptY, spoilT_at k l hk]; rfl
theorem spoilT_set (k : Nat) (l : List Pt) (hk : k < l.length) : (spoilT k l).set k (bits .xor .i64 (ptY l k) 77, bits .xor .i64 (ptX l k) 77) = spoilT (k + 1) l := by
  have hl : ((l.take k).map spoil1).length = k := by simp; omega
  rw [spoilT, List.set_append_right _ _ (by omega), hl, Nat.sub_self, List.drop_eq_getElem_cons hk, List.set_cons_zero, spoilT, takeP_step l k hk]
  simp [spoil1]

theorem heap_drew (w : World) : w.drew.heap = w.heap := rfl
theorem grown_drew {a w : World} {r : Option Nat} (h : a.grownBy w r) : a.grownBy w.drew r := ⟨h.os, h.tape, h.output, h.size, h.block⟩
set_option maxHeartbeats 400000 in
theorem spoil_pt (g n c : Nat) (l : List Pt) (w : World) (hg : w.heap[g]? = some (.cells (blk .i64 (flP l)) 27 (0, 0))) (hl : l.length = c) (hn : n ≤ c) (hc : c ≤ 9223372036854775807) :
    Calls Try.prog 25 #[.slice (some ⟨g, 0, none⟩) n c] w fun e w' => e = .returned (.tuple #[]) ∧ w'.heap[g]? = some (.cells (blk .i64 (flP (spoilT c l))) 27 (0, 0)) ∧ w.grownBy w' (some g) ∧ w'.heap.size = w.heap.size := by
  have hl' := Lib.hid hl
  clear hl
  go_enter Try.func25, Try.ntmps25
  go_wp2
  go_loopw [3] (fun i wr => ∃ k : Nat, k ≤ c ∧ i = .int .i64 k ∧ Hid (wr.heap[g]? = some (.cells (blk .i64 (flP (spoilT k l))) 27 (0, 0))) ∧ w.grownBy wr (some g) ∧ Hid (wr.heap.size = w.heap.size)) (fun i _ => c - (intOf i).toNat)
  case atStart => exact ⟨0, by omega, rfl, Lib.hid (by rw [spoilT_zero]; exact hg), World.grownBy.refl _ _, Lib.hid rfl⟩
  case round =>
    obtain ⟨k, hk, rfl, hb, hgr, hsz⟩ := hrel
    by_cases hlt : k < c
    · have hlen : k < (spoilT k l).length := by rw [spoilT_length, hl'.out]; exact hlt
      have hc0 : wr.cell? ⟨g, k * 2, none⟩ = some (.int .i64 (ptX l k)) := by
        rw [cell_of_row wr g _ _ _ _ hb.out, blkP_x _ _ hlen, spoilT_x k l (by have := hl'.out; omega)]
      have hc1 : wr.cell? ⟨g, k * 2 + 1, none⟩ = some (.int .i64 (ptY l k)) := by
        rw [cell_of_row wr g _ _ _ _ hb.out, blkP_y _ _ hlen, spoilT_y k l (by have := hl'.out; omega)]
      have hfz0 := block_frozen wr g (k * 2) _ _ hb.out
      have hfz1 := block_frozen wr g (k * 2 + 1) _ _ hb.out
      have k1 := block_setCell wr g (k * 2) .i64 27 _ (bits .xor .i64 (ptY l k) 77) hb.out
      have k2 := block_setCell _ g (k * 2 + 1) .i64 27 _ (bits .xor .i64 (ptX l k) 77) k1
      rw [flP_set _ _ _ _ hlen, spoilT_set k l (by have := hl'.out; omega)] at k2
      have K2 := Lib.hid k2
      have g1 := grown_setCell hgr (k * 2) (.int .i64 (bits .xor .i64 (ptY l k) 77))
      have g2 := grown_setCell g1 (k * 2 + 1) (.int .i64 (bits .xor .i64 (ptX l k) 77))
      have hz : Hid (((wr.setCell ⟨g, k * 2, none⟩ (.int .i64 (bits .xor .i64 (ptY l k) 77))).setCell ⟨g, k * 2 + 1, none⟩ (.int .i64 (bits .xor .i64 (ptX l k) 77))).heap.size = w.heap.size) := Lib.hid (by
        rw [← hsz.out]; simp [World.setCell])
      clear g1 k1 k2 hlen
      go_wp2
      go_region
      go_wp2
      go_roundw
      case rel => exact ⟨k + 1, by omega, by go_num, Lib.hid (by rw [heap_drew]; exact K2.out), grown_drew g2, Lib.hid (by rw [heap_drew]; exact hz.out)⟩
      case measure => simp [intOf]; omega
    · obtain rfl : k = c := by omega
      go_wp2
      go_end0
      exact ⟨rfl, hb.out, hgr, hsz.out⟩
theorem spoil_nilT (w : World) :
    Calls Try.prog 25 #[.slice none 0 0] w fun e w' => e = .returned (.tuple #[]) ∧ w = w' := by
  go_enter Try.func25, Try.ntmps25
  go_wp2
  go_loop [3] (fun i => i = .int .i64 0) (fun _ => 0)
  case atStart => rfl
  case round =>
    subst hrel
    go_wp2
    go_end0
    exact ⟨rfl, rfl⟩
/-- Rows that lie in blocks of their own, each known whole (or nil), their slices in the array of block gl. -/
structure PartsT (w : World) (B gl m : Nat) (A : Nat → Option Addr) (n c : Nat → Nat) (l : Nat → List Pt) : Prop where
  at_ : ∀ k, k < m → w.cell? ⟨gl, k, none⟩ = some (.slice (A k) (n k) (c k))
  size : ∀ k, k < m → n k ≤ c k ∧ (c k ≤ 9223372036854775807 ∧ n k * 16 ≤ 140737488355328) ∧ (l k).length = c k
  wf : ∀ k, k < m → ∀ p ∈ (l k).take (n k), Pt.Ok p
  lies : ∀ k, k < m → (A k = none ∧ n k = 0 ∧ c k = 0) ∨ ∃ g, A k = some ⟨g, 0, none⟩ ∧ B ≤ g ∧ g ≠ gl ∧ w.heap[g]? = some (.cells (blk .i64 (flP (l k))) 27 (0, 0))
  apart : ∀ i k, i < m → k < m → i ≠ k → ∀ g, A i = some ⟨g, 0, none⟩ → A k ≠ some ⟨g, 0, none⟩
  gl_lt : gl < w.heap.size

theorem PartsT.row {w : World} {B gl m : Nat} {A : Nat → Option Addr} {n c : Nat → Nat} {l : Nat → List Pt} (h : PartsT w B gl m A n c l) {k : Nat} (hk : k < m) :
    Row .i64 w w.heap.size (A k) (flP ((l k).take (n k))) ∧ ((l k).take (n k)).length = n k := by
  have hs := h.size k hk
  refine ⟨?_, by simp; omega⟩
  rcases h.lies k hk with ⟨ha, hn, hc⟩ | ⟨g, ha, _, _, hg⟩
  · rw [hn, List.take_zero]; exact Row.nil _ _ _ _
  · rw [ha]
    exact Row.pts_of_block (m := (l k).drop (n k)) (by rw [List.take_append_drop]; exact hg) (h.wf k hk)
/-- A step that leaves all old blocks leaves the parts. -/
theorem PartsT.below {w w' : World} {B gl m : Nat} {A : Nat → Option Addr} {n c : Nat → Nat} {l : Nat → List Pt} (h : PartsT w B gl m A n c l) (hb : Below w.heap.size w w') : PartsT w' B gl m A n c l where
  at_ := fun k hk => (hb.cell (p := ⟨gl, k, none⟩) h.gl_lt).trans (h.at_ k hk)
  size := h.size
  wf := h.wf
  lies := fun k hk => by
    rcases h.lies k hk with h0 | ⟨g, ha, hB, hne, hg⟩
    · exact .inl h0
    · exact .inr ⟨g, ha, hB, hne, (hb.block g (block_lt hg)).trans hg⟩
  apart := h.apart
  gl_lt := Nat.lt_of_lt_of_le h.gl_lt hb.size
/-- One part is written over. -/
theorem PartsT.spoil {w w' : World} {B gl m : Nat} {A : Nat → Option Addr} {n c : Nat → Nat} {l : Nat → List Pt} (h : PartsT w B gl m A n c l) {i g : Nat} (hi : i < m) (ha : A i = some ⟨g, 0, none⟩)
    (hg : w'.heap[g]? = some (.cells (blk .i64 (flP (spoilT (c i) (l i)))) 27 (0, 0))) (hgr : w.grownBy w' (some g)) : PartsT w' B gl m A n c (fun k => if k = i then spoilT (c i) (l i) else l k) where
  at_ := fun k hk => by
    rcases h.lies i hi with ⟨h0, _⟩ | ⟨g', ha', _, hne, _⟩
    · rw [ha] at h0; cases h0
    · rw [ha] at ha'
      injection ha' with ha'
      injection ha' with ha'
      subst ha'
      exact (World.cell?_of_block (hgr.block gl h.gl_lt (fun e => hne (by injection e with e; exact e.symm)))).trans (h.at_ k hk)
  size := fun k hk => by
    have := h.size k hk
    refine ⟨this.1, this.2.1, ?_⟩
    split
    · rename_i e; subst e; rw [spoilT_length]; exact this.2.2
    · exact this.2.2
  wf := fun k hk => by
    show ∀ p ∈ (if k = i then spoilT (c i) (l i) else l k).take (n k), _
    split
    · exact fun p hp => spoilT_ok _ _ (by have := (h.size i hi).2.2; omega) p (List.mem_of_mem_take hp)
    · exact h.wf k hk
  lies := fun k hk => by
    by_cases e : k = i
    · subst e
      rcases h.lies k hi with ⟨h0, _⟩ | ⟨g', ha', hB, hne, _⟩
      · rw [ha] at h0; cases h0
      · rw [ha] at ha'
        injection ha' with ha'
        injection ha' with ha'
        subst ha'
        exact .inr ⟨g, ha, hB, hne, by rw [if_pos rfl]; exact hg⟩
    · rcases h.lies k hk with h0 | ⟨g', ha', hB, hne, hg'⟩
      · exact .inl h0
      · refine .inr ⟨g', ha', hB, hne, ?_⟩
        rw [if_neg e, hgr.block g' (block_lt hg') (fun e' => ?_)]
        · exact hg'
        · injection e' with e'
          subst e'
          exact h.apart k i hk hi e _ ha' ha
  apart := h.apart
  gl_lt := Nat.lt_of_lt_of_le h.gl_lt hgr.size

set_option maxHeartbeats 1000000 in
theorem apart_pt (gl m B : Nat) (A : Nat → Option Addr) (n c : Nat → Nat) (l0 : Nat → List Pt) (w : World) (hP : PartsT w B gl m A n c l0) (hB : B ≤ w.heap.size) (hm : m ≤ 1000) :
    Calls Try.prog 18 #[.slice (some ⟨gl, 0, none⟩) m m] w fun e w' => e = .returned (.bool true) ∧ Below B w w' := by
  go_enter Try.func18, Try.ntmps18
  go_wp2
  go_loopw [3, 4, 5] (fun i _ _ wr => ∃ (j : Nat) (l : Nat → List Pt), j ≤ m ∧ i = .int .i64 j ∧ PartsT wr B gl m A n c l ∧ Below B w wr) (fun i _ _ _ => m - (intOf i).toNat)
  case atStart => exact ⟨0, l0, by omega, rfl, hP, Below.refl _ _⟩
  case round =>
    obtain ⟨i, l1, hi, rfl, hP1, hb1⟩ := hrel
    by_cases hlt : i < m
    · go_wp2
      obtain ⟨wo, hwo⟩ : ∃ wo : World, wo = wr := ⟨_, rfl⟩
      subst hwo
      go_loopw [4, 5] (fun k _ wr => ∃ (j : Nat) (l : Nat → List Pt), j ≤ m ∧ k = .int .i64 j ∧ PartsT wr B gl m A n c l ∧ Below B w wr) (fun k _ _ => m - (intOf k).toNat)
      case atStart => exact ⟨0, l1, by omega, rfl, hP1, hb1⟩
      case round =>
        obtain ⟨k, l, hk, rfl, hP2, hb2⟩ := hrel
        by_cases hlk : k < m
        · by_cases hik : i = k
          · subst hik
            go_wp2
            go_roundw
            case rel => exact ⟨i + 1, l, by omega, by go_num, hP2, hb2⟩
            case measure => simp [intOf]; omega
          · have ht : ((i : Int) == (k : Int)) = false := by simp; omega
            have hck := hP2.at_ k hlk
            have hci := hP2.at_ i hlt
            obtain ⟨hrow, hrl⟩ := hP2.row hlk
            have hrl' := Lib.hid hrl
            clear hrl
            have hsk := hP2.size k hlk
            go_wp2_with fail
            refine (copy_pt _ _ _ _ _ hrow hrl'.out (by omega)).mono ?_
            rintro e w1 ⟨v1, rfl, own1, bel1⟩
            have hP3 := hP2.below bel1
            have hb3 : Below B w w1 := hb2.trans (bel1.mono (Nat.le_trans hB hb2.size))
            have hck1 := hP3.at_ k hlk
            have hci1 := hP3.at_ i hlt
            have hwf := flP_ok hrow.1
            rcases hP3.lies i hlt with ⟨hA, hN, hC⟩ | ⟨g, hA, hBg, hgl, hg⟩
            · rw [hA, hN, hC] at hci1
              clear hA hN hC hck hci hrow
              obtain ⟨A1, c1, rfl, row1, _, _⟩ := own1.row hwf
              rw [hrl'.out]
              obtain ⟨hrow3, hrl3⟩ := hP3.row hlk
              have hrl3' := Lib.hid hrl3
              clear hrl3
              go_wp2_with fail
              refine (spoil_nilT _).mono ?_
              rintro e w' ⟨rfl, rfl⟩
              go_wp2_with fail
              refine (same_yes_pt _ _ _ _ _ _ _ _ _ row1 hrow3 hrl3'.out (by omega)).mono ?_
              rintro e w' ⟨rfl, mq, rfl⟩
              have hP4 := hP3.below (w' := w1.drewN mq) ⟨rfl, rfl, rfl, Nat.le_refl _, fun _ _ => rfl⟩
              have hb4 : Below B w (w1.drewN mq) := hb3.trans ⟨rfl, rfl, rfl, Nat.le_refl _, fun _ _ => rfl⟩
              go_wp2
              go_roundw
              case rel => exact ⟨k + 1, l, by omega, by go_num, hP4, hb4⟩
              case measure => simp [intOf]; omega
            · have hsi := hP3.size i hlt
              have hglt : g < wr.heap.size := by
                rcases hP2.lies i hlt with ⟨h0, _⟩ | ⟨g', hA', _, _, hg'⟩
                · rw [hA] at h0; cases h0
                · rw [hA] at hA'
                  injection hA' with hA'
                  injection hA' with hA'
                  rw [hA']
                  exact block_lt hg'
              rw [hA] at hci1
              clear hck hci hrow
              have hsi3 := Lib.hid hsi.2.2
              go_wp2_with fail
              refine (spoil_pt g _ _ (l i) _ hg hsi3.out hsi.1 hsi.2.1.1).mono ?_
              rintro e w2 ⟨rfl, hg2, hgr2, hsz2⟩
              have hP4 := hP3.spoil hlt hA hg2 hgr2
              have hb4 : Below B w w2 := hb3.grown hgr2 (Nat.le_trans hB hb3.size) (fun q e => by injection e; omega)
              have own2 := own1.kept hgr2 (by
                cases hv : v1.ownBlock with
                | none => exact .inl rfl
                | some q =>
                  refine .inr fun e => ?_
                  have h1 := (own1.block q hv).1
                  injection e with e
                  omega)
              have hck2 := hP4.at_ k hlk
              obtain ⟨hrow4, hrl4⟩ := hP4.row hlk
              simp only [if_neg (show ¬ k = i by omega)] at hrow4 hrl4
              have hrl4' := Lib.hid hrl4
              obtain ⟨A1, c1, rfl, row1, _, _⟩ := own2.row hwf
              rw [hrl'.out]
              clear hsz2 hrl4 hck1 hci1 hgr2 hg2 hg hA
              go_wp2_with fail
              refine (same_yes_pt _ _ _ _ _ _ _ _ _ row1 hrow4 hrl4'.out (by omega)).mono ?_
              rintro e w' ⟨rfl, mq, rfl⟩
              have hP5 := hP4.below (w' := w2.drewN mq) ⟨rfl, rfl, rfl, Nat.le_refl _, fun _ _ => rfl⟩
              have hb5 : Below B w (w2.drewN mq) := hb4.trans ⟨rfl, rfl, rfl, Nat.le_refl _, fun _ _ => rfl⟩
              go_wp2
              go_roundw
              case rel => exact ⟨k + 1, _, by omega, by go_num, hP5, hb5⟩
              case measure => simp [intOf]; omega
        · go_wp2
          go_roundw
          case rel => exact ⟨i + 1, l, by omega, by go_num, hP2, hb2⟩
          case measure => simp [intOf]; omega
    · go_wp2
      go_ret
      exact ⟨rfl, hb1⟩

/-- A slice that is handed to ApartPoints: nil, or the beginning of a block that is known whole. -/
structure EntT where
  a : Option Nat
  n : Nat
  c : Nat
  l : List Pt
def EntT.none_ : EntT := ⟨none, 0, 0, []⟩
def EntT.adr (e : EntT) : Option Addr := e.a.map fun g => ⟨g, 0, none⟩
def EntT.val (e : EntT) : Value := .slice e.adr e.n e.c
structure EntT.Ok (w : World) (B : Nat) (e : EntT) : Prop where
  size : e.n ≤ e.c ∧ (e.c ≤ 9223372036854775807 ∧ e.n * 16 ≤ 140737488355328) ∧ e.l.length = e.c
  wf : ∀ p ∈ e.l.take e.n, Pt.Ok p
  lies : (e.a = none ∧ e.n = 0 ∧ e.c = 0) ∨ ∃ g, e.a = some g ∧ B ≤ g ∧ w.heap[g]? = some (.cells (blk .i64 (flP e.l)) 27 (0, 0))
def EntT.Far (e e' : EntT) : Prop := ∀ g, e.a = some g → e'.a ≠ some g
theorem EntT.adr_some {e : EntT} {g : Nat} (h : e.adr = some ⟨g, 0, none⟩) : e.a = some g := by
  unfold EntT.adr at h
  cases ha : e.a with
  | none => rw [ha] at h; cases h
  | some q => rw [ha] at h; simp at h; rw [h]

theorem partsT_of_list (w : World) (B : Nat) (L : List EntT) (t : TypeId) (hok : ∀ e ∈ L, e.Ok w B) (hfar : L.Pairwise EntT.Far) :
    PartsT (w.alloc (.cells (L.map EntT.val).toArray t)) B w.heap.size L.length (fun k => (L.getD k EntT.none_).adr) (fun k => (L.getD k EntT.none_).n) (fun k => (L.getD k EntT.none_).c) (fun k => (L.getD k EntT.none_).l) where
  at_ := fun k hk => by
    rw [World.cell?_alloc_at _ _ _ _ rfl]
    simp [List.getElem?_eq_getElem hk, List.getD_eq_getElem?_getD, EntT.val]
  size := fun k hk => by
    simp only [List.getD_eq_getElem?_getD, List.getElem?_eq_getElem hk, Option.getD_some]
    exact (hok _ (List.getElem_mem hk)).size
  wf := fun k hk => by
    simp only [List.getD_eq_getElem?_getD, List.getElem?_eq_getElem hk, Option.getD_some]
    exact (hok _ (List.getElem_mem hk)).wf
  lies := fun k hk => by
    simp only [List.getD_eq_getElem?_getD, List.getElem?_eq_getElem hk, Option.getD_some]
    rcases (hok _ (List.getElem_mem hk)).lies with ⟨h1, h2⟩ | ⟨g, h1, h2, h3⟩
    · exact .inl ⟨by rw [EntT.adr, h1]; rfl, h2⟩
    · have := block_lt h3
      exact .inr ⟨g, by rw [EntT.adr, h1]; rfl, h2, by omega, (Below.heap_alloc w _ g this).trans h3⟩
  apart := fun i k hi hk hne g h1 h2 => by
    simp only [List.getD_eq_getElem?_getD, List.getElem?_eq_getElem hi, List.getElem?_eq_getElem hk, Option.getD_some] at h1 h2
    have h1 := EntT.adr_some h1
    have h2 := EntT.adr_some h2
    rcases Nat.lt_or_gt_of_ne hne with h | h
    · exact List.pairwise_iff_getElem.1 hfar i k hi hk h g h1 h2
    · exact List.pairwise_iff_getElem.1 hfar k i hk hi h g h2 h1
  gl_lt := by simp

theorem apart_list_pt (w : World) (B : Nat) (L : List EntT) (t : TypeId) (hok : ∀ e ∈ L, e.Ok w B) (hfar : L.Pairwise EntT.Far) (hB : B ≤ w.heap.size) (hm : L.length ≤ 1000) :
    Calls Try.prog 18 #[.slice (some ⟨w.heap.size, 0, none⟩) L.length L.length] (w.alloc (.cells (L.map EntT.val).toArray t)) fun e w' => e = .returned (.bool true) ∧ Below B w w' :=
  (apart_pt _ _ B _ _ _ _ _ (partsT_of_list w B L t hok hfar) (by simp; omega) hm).mono fun _ _ ⟨he, hb⟩ => ⟨he, ((Below.refl B w).alloc hB _).trans hb⟩

/-- A list of points of the call's own, as an entry. -/
theorem PtOwn.ent {w : World} {base B : Nat} {v : Value} {l : List Pt} (h : PtOwn 27 w base v l) (hw : ∀ p ∈ l, Pt.Ok p) (hb : l.length * 16 ≤ 140737488355328) (hB : B ≤ base) :
    ∃ E : EntT, E.val = v ∧ E.Ok w B ∧ ∀ g, E.a = some g → base ≤ g := by
  rcases h with ⟨rfl, rfl⟩ | ⟨g, cap, r, rfl, h2, h3, h4, h5⟩
  · refine ⟨⟨none, 0, 0, []⟩, rfl, ⟨⟨Nat.le_refl _, ⟨Nat.zero_le _, by show 0 * 16 ≤ _; omega⟩, rfl⟩, fun p hp => by simp at hp, .inl ⟨rfl, rfl, rfl⟩⟩, fun g h => by cases h⟩
  · refine ⟨⟨some g, l.length, cap, l ++ r⟩, rfl, ⟨⟨by show l.length ≤ cap; omega, ⟨h5, hb⟩, by show (l ++ r).length = cap; rw [List.length_append]; exact h4⟩, ?_, .inr ⟨g, rfl, Nat.le_trans hB h2, h3⟩⟩, fun q h => ?_⟩
    · show ∀ p ∈ (l ++ r).take l.length, Pt.Ok p
      rw [List.take_left]; exact hw
    · injection h with h; omega
/-- A list of the call's own and a list that was lent before share no memory. -/
theorem apart2_pt (w : World) (B base g n : Nat) (v : Value) (l l2 : List Pt) (t : TypeId) (h1 : PtOwn 27 w base v l) (hw : ∀ p ∈ l, Pt.Ok p) (hb : l.length * 16 ≤ 140737488355328) (hg : w.heap[g]? = some (.cells (blk .i64 (flP (l2 ++ marksT))) 27 (0, 0))) (hw2 : ∀ p ∈ l2, Pt.Ok p) (hn : l2.length = n) (hb2 : n * 16 ≤ 140737488355328) (hBg : B ≤ g) (hgb : g < base) (hB : B ≤ w.heap.size) :
    Calls Try.prog 18 #[.slice (some ⟨w.heap.size, 0, none⟩) 2 2] (w.alloc (.cells #[v, .slice (some ⟨g, 0, none⟩) n (n + 5)] t)) fun e w' => e = .returned (.bool true) ∧ Below B w w' := by
  obtain ⟨E, hv, hok, hlo⟩ := h1.ent (B := B) hw hb (by omega)
  have hfar : [E, ⟨some g, n, n + 5, l2 ++ marksT⟩].Pairwise EntT.Far := by
    refine List.pairwise_cons.2 ⟨fun e he => ?_, List.pairwise_singleton _ _⟩
    simp only [List.mem_singleton] at he
    subst he
    intro q h5 h4
    have h4 : some g = some q := h4
    injection h4 with h4
    have := hlo q h5
    omega
  have hoks : ∀ e ∈ [E, ⟨some g, n, n + 5, l2 ++ marksT⟩], e.Ok w B := by
    intro e he
    simp only [List.mem_cons, List.not_mem_nil, or_false] at he
    rcases he with rfl | rfl
    · exact hok
    · refine ⟨⟨by show n ≤ n + 5; omega, ⟨by show n + 5 ≤ _; omega, hb2⟩, by show (l2 ++ marksT).length = n + 5; rw [List.length_append, hn]; rfl⟩, ?_, .inr ⟨g, rfl, hBg, hg⟩⟩
      show ∀ p ∈ (l2 ++ marksT).take n, Pt.Ok p
      rw [← hn, List.take_left]; exact hw2
  have h := apart_list_pt w B _ t hoks hfar hB (by simp)
  simp only [List.map_cons, List.map_nil, hv] at h
  exact h
end Go.Proofs.Ytggijpfmcidpaaa
