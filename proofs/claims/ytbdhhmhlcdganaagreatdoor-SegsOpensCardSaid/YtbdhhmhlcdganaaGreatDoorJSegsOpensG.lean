/-
  Texts of the proof of SegsOpens, joined.
-/
import Derived.Test.YtbdhhmhlcdganaaGreatDoorJSegsOpensF
import Derived.Test.YtbdhhmhlcdganaaGreatDoorJSegsOpensC
import Derived.Test.YtbdhhmhlcdganaaGreatDoorJSegsOpensE
import Derived.Lib.SmallJoins
import Derived.Deep.RegionHeld3
import Derived.Deep.RegionLaw
import Derived.Deep.RegionHeld
namespace Go.Proofs.YtbdhhmhlcdganaaGreatDoor
open Go.RowKit
set_option linter.unusedVariables false

def PtOwn (e : TypeId) (w : World) (base : Nat) (v : Value) (l : List Pt) : Prop :=
  (v = .slice none 0 0 ∧ l = []) ∨
  ∃ (g cap : Nat) (r : List Pt), v = .slice (some ⟨g, 0, none⟩) l.length cap ∧ base ≤ g ∧ w.heap[g]? = some (.cells (blk .i64 (flP (l ++ r))) e (0, 0)) ∧ l.length + r.length = cap ∧ cap ≤ maxLen

theorem PtOwn.nil (e : TypeId) (w : World) (base : Nat) : PtOwn e w base (.slice none 0 0) [] := .inl ⟨rfl, rfl⟩
theorem PtOwn.below {e : TypeId} {w w' : World} {base B : Nat} {v : Value} {l : List Pt} (h : PtOwn e w base v l) (hb : Below B w w') (hB : w.heap.size ≤ B) : PtOwn e w' base v l := by
  rcases h with h | ⟨g, cap, r, h1, h2, h3, h4⟩
  · exact .inl h
  · exact .inr ⟨g, cap, r, h1, h2, (hb.block g (by have := block_lt h3; omega)).trans h3, h4⟩
theorem PtOwn.alloc {e : TypeId} {w : World} {base : Nat} {v : Value} {l : List Pt} (h : PtOwn e w base v l) (o : Obj) : PtOwn e (w.alloc o) base v l :=
  h.below (bel_alloc w o) (Nat.le_refl _)
theorem PtOwn.drewN {e : TypeId} {w : World} {base : Nat} {v : Value} {l : List Pt} (h : PtOwn e w base v l) (n : Nat) : PtOwn e (w.drewN n) base v l := h
theorem PtOwn.mono {e : TypeId} {w : World} {base base' : Nat} {v : Value} {l : List Pt} (h : PtOwn e w base v l) (hb : base' ≤ base) : PtOwn e w base' v l := by
  rcases h with h | ⟨g, cap, r, h1, h2, h3⟩
  · exact .inl h
  · exact .inr ⟨g, cap, r, h1, by omega, h3⟩
theorem PtOwn.block {e : TypeId} {w : World} {base : Nat} {v : Value} {l : List Pt} (h : PtOwn e w base v l) : ∀ g, v.ownBlock = some g → base ≤ g ∧ g < w.heap.size := by
  intro g hg
  rcases h with ⟨rfl, _⟩ | ⟨g', cap, r, rfl, h2, h3, h4⟩
  · cases hg
  · injection hg with hg
    subst hg
    exact ⟨h2, block_lt h3⟩
theorem PtOwn.kept {e : TypeId} {w w' : World} {base : Nat} {v : Value} {l : List Pt} {row : Option Nat} (h : PtOwn e w base v l) (hg : w.grownBy w' row) (hne : v.ownBlock = none ∨ v.ownBlock ≠ row) : PtOwn e w' base v l := by
  rcases h with h | ⟨g, cap, r, rfl, h2, h3, h4⟩
  · exact .inl h
  · refine .inr ⟨g, cap, r, rfl, h2, (hg.block g (block_lt h3) fun e => ?_).trans h3, h4⟩
    rcases hne with h | h
    · cases h
    · exact h e
theorem PtOwn.set {e : TypeId} {w : World} {base g : Nat} {v : Value} {l : List Pt} (h : PtOwn e w base v l) (hg : g < base) (i : Nat) (u : Value) : PtOwn e (w.setCell ⟨g, i, none⟩ u) base v l := by
  rcases h with h | ⟨q, cap, r, rfl, h2, h3, h4⟩
  · exact .inl h
  · exact .inr ⟨q, cap, r, rfl, h2, (Below.heap_setCell w ⟨g, i, none⟩ u q (by simp; omega)).trans h3, h4⟩
theorem PtOwn.row {e : TypeId} {w : World} {base : Nat} {v : Value} {l : List Pt} (h : PtOwn e w base v l) (hw : ∀ p ∈ l, Pt.Ok p) :
    ∃ A c, v = .slice A l.length c ∧ Row .i64 w w.heap.size A (flP l) ∧ l.length ≤ c ∧ c ≤ maxLen := by
  rcases h with ⟨rfl, rfl⟩ | ⟨g, cap, r, rfl, h2, h3, h4, h5⟩
  · exact ⟨none, 0, rfl, Row.nil _ _ _ _, Nat.le_refl _, Nat.zero_le _⟩
  · exact ⟨_, cap, rfl, Row.pts_of_block h3 hw, by omega, h5⟩

section
variable {P : Program}
theorem blkP_cat (l m : List Pt) : blk .i64 (flP l) ++ blk .i64 (flP m) = blk .i64 (flP (l ++ m)) := by rw [flP_append]; simp [blk]
theorem run_append_pt (w : World) (base : Nat) (t ty e : TypeId) (ht : P.underlying t = some (.slice e)) (hi : (P.info? e).map (fun i => (i.zero, i.size, i.bytes)) = some (some (.agg #[.int .i64 0, .int .i64 0]), 2, 16))
    (v : Value) (l : List Pt) (hown : PtOwn e w base v l) (a : Addr) (c : Nat) (x y : Int) (hnews : ∀ j u, [Value.int .i64 x, .int .i64 y][j]? = some u → w.cell? (a.add j) = some u)
    (hb : (l.length + 1) * 16 ≤ 140737488355328) (hbase : base ≤ w.heap.size) :
    ∃ v' w', (Builtin.append_ #[t, t] ty #[v, .slice (some a) 1 c]).run P w = .ok v' w' ∧ PtOwn e w' base v' (l ++ [(x, y)]) ∧ w.grownBy w' v.ownBlock := by
  obtain ⟨i, hi1, hz, hsz, hby⟩ := info_parts hi
  have hl : [Value.int .i64 x, .int .i64 y].length = 1 * i.size := by rw [hsz]; rfl
  rcases hown with ⟨rfl, rfl⟩ | ⟨g, cap, r, rfl, h2, h3, h4, h5⟩
  · have hr := run_append_nil (P := P) w t ty e i _ ht hi1 hz a 1 c _ hl hnews (by omega) (by omega) (by rw [hby]; omega)
    have hge := grownCap_ge w 1 0 e
    refine ⟨_, _, hr, .inr ⟨_, _, zeroP (grownCap w 1 0 e - 1), rfl, hbase, ?_, ?_, grownCap_le_maxLen w 1 0 e (by simp [maxLen])⟩, ⟨rfl, rfl, rfl, by simp, fun k hk _ => heap_alloc_old w.drew _ hk⟩⟩
    · have := heap_alloc_new w.drew (.cells ([Value.int .i64 x, .int .i64 y].toArray ++ Builtin.zeroCells (Value.agg #[.int .i64 0, .int .i64 0]).cells (grownCap w 1 0 e - 1)) e)
      rw [zero_two] at this
      rw [zero_two]
      refine this.trans ?_
      have e1 : [Value.int .i64 x, .int .i64 y].toArray = blk .i64 (flP [(x, y)]) := rfl
      rw [e1, blkP_cat]; rfl
    · rw [zeroP_len]; simp; omega
  · by_cases hroom : l.length + 1 ≤ cap
    · have hcs : (blk .i64 (flP (l ++ r))).size = 2 * cap := by rw [blk_size, flP_len, List.length_append]; omega
      have hr := run_append_room (P := P) w t ty e i ht hi1 g l.length cap _ h3 a 1 c _ hl hnews (by simp [Value.oneCell']) hroom (by rw [hsz, hcs]; simp; omega)
      obtain ⟨p, r, rfl⟩ : ∃ p r', r = p :: r' := by
        cases r with
        | nil => simp at h4; omega
        | cons p r => exact ⟨p, r, rfl⟩
      refine ⟨_, _, hr, .inr ⟨g, cap, r, by rw [List.length_append]; rfl, h2, ?_, by rw [List.length_append]; simp at h4 ⊢; omega, h5⟩, ⟨rfl, rfl, rfl, by simp, fun k _ hk => setRow_other w g k _ (fun e => hk (by simp [Value.ownBlock, e]))⟩⟩
      rw [setRow_heap w g _ _ e _ h3, hsz]
      congr 2
      have e1 : (blk .i64 (flP (l ++ p :: r))).toList = (flP l).map (Value.int .i64) ++ (Value.int .i64 p.1 :: .int .i64 p.2 :: (flP r).map (Value.int .i64)) := by rw [flP_append, flP_cons]; simp [blk]
      have e2 : ((flP l).map (Value.int .i64)).length = l.length * 2 := by rw [List.length_map, flP_len]; omega
      rw [e1, List.take_left' e2, List.drop_append, List.drop_eq_nil_of_le (by rw [e2]; simp), e2, List.append_assoc, flP_append, flP_append, flP_cons, flP_nil]
      simp [blk]
    · have hcn : l.length = cap := by omega
      have hr0 : r = [] := List.eq_nil_of_length_eq_zero (by omega)
      subst hr0
      rw [List.append_nil] at h3
      have holds : ∀ j u, ((flP l).map (Value.int .i64))[j]? = some u → w.cell? ((⟨g, 0, none⟩ : Addr).add j) = some u := by
        intro j u hu
        rw [Go.WideShapes.add_plain, Nat.zero_add, cell_of_row w g j _ _ _ h3]
        simpa [blk] using hu
      have hr := run_append_grow (P := P) w t ty e i _ ht hi1 hz ⟨g, 0, none⟩ l.length cap _ (by rw [hsz, List.length_map, flP_len]; omega) holds a 1 c _ hl hnews (by omega) (by omega) (growslice_fits (by omega) (by rw [hby]; omega))
      have hge := grownCap_ge w (l.length + 1) cap e
      refine ⟨_, _, hr, .inr ⟨_, _, zeroP (grownCap w (l.length + 1) cap e - (l.length + 1)), by rw [List.length_append]; rfl, hbase, ?_, by rw [List.length_append, zeroP_len]; simp; omega, grownCap_le_maxLen w (l.length + 1) cap e (by simp only [maxLen]; omega)⟩, ⟨rfl, rfl, rfl, by simp, fun k hk _ => heap_alloc_old w.drew _ hk⟩⟩
      have := heap_alloc_new w.drew (.cells (((flP l).map (Value.int .i64)).toArray ++ [Value.int .i64 x, .int .i64 y].toArray ++ Builtin.zeroCells (Value.agg #[.int .i64 0, .int .i64 0]).cells (grownCap w (l.length + 1) cap e - (l.length + 1))) e)
      rw [zero_two] at this
      rw [zero_two]
      refine this.trans ?_
      have e1 : [Value.int .i64 x, .int .i64 y].toArray = blk .i64 (flP [(x, y)]) := rfl
      have e2 : ((flP l).map (Value.int .i64)).toArray = blk .i64 (flP l) := rfl
      rw [e1, e2, blkP_cat, blkP_cat]

end
theorem box_two (w : World) (t : TypeId) (x y : Int) : ∀ j u, [Value.int .i64 x, .int .i64 y][j]? = some u → (w.alloc (.cells #[.int .i64 x, .int .i64 y] t)).cell? ((⟨w.heap.size, 0, none⟩ : Addr).add j) = some u := by
  intro j u hu
  rw [Go.WideShapes.add_plain, Nat.zero_add, World.cell?_alloc_at _ _ _ _ rfl]
  simpa using hu

end Go.Proofs.YtbdhhmhlcdganaaGreatDoor
namespace Go.Proofs.YtbdhhmhlcdganaaGreatDoor
open Go.RowKit
set_option linter.unusedVariables false
set_option maxRecDepth 100000

def segL : Nat → Nat → List (List (List Int)) → List Pt
  | _, _, [] => []
  | n, b, s :: t => ((n : Int), (b : Int)) :: segL (n + 1) (b + s.length) t
theorem segL_len (n b : Nat) (l : List (List (List Int))) : (segL n b l).length = l.length := by
  induction l generalizing n b with
  | nil => rfl
  | cons s t ih => simp [segL, ih]
theorem segL_app (n b : Nat) (l : List (List (List Int))) (s : List (List Int)) : segL n b (l ++ [s]) = segL n b l ++ [(((n + l.length : Nat) : Int), ((b + cntS l : Nat) : Int))] := by
  induction l generalizing n b with
  | nil => simp [segL, cntS]
  | cons a t ih =>
    simp only [List.cons_append, segL, ih, List.length_cons]
    have e1 : n + 1 + t.length = n + (t.length + 1) := by omega
    have e2 : b + a.length + cntS t = b + cntS (a :: t) := by unfold cntS; simp; omega
    rw [e1, e2]
theorem segL_at (n b : Nat) (l : List (List (List Int))) {i : Nat} (h : i < l.length) : ptX (segL n b l) i = ((n + i : Nat) : Int) ∧ ptY (segL n b l) i = ((b + cntS (l.take i) : Nat) : Int) := by
  induction l generalizing n b i with
  | nil => simp at h
  | cons a t ih =>
    cases i with
    | zero => simp [segL, ptX, ptY, cntS]
    | succ i =>
      have h1 := ih (n + 1) (b + a.length) (i := i) (by simpa using h)
      have e1 : ptX (segL n b (a :: t)) (i + 1) = ptX (segL (n + 1) (b + a.length) t) i := by simp [segL, ptX]
      have e2 : ptY (segL n b (a :: t)) (i + 1) = ptY (segL (n + 1) (b + a.length) t) i := by simp [segL, ptY]
      rw [e1, e2, h1.1, h1.2]
      have e3 : n + 1 + i = n + (i + 1) := by omega
      have e4 : b + a.length + cntS (t.take i) = b + cntS ((a :: t).take (i + 1)) := by unfold cntS; simp; omega
      rw [e3, e4]
      exact ⟨rfl, rfl⟩
theorem segL_last (n b : Nat) {l : List (List (List Int))} (h : l ≠ []) (s : List (List Int)) : segL n b (l.dropLast ++ [s]) = segL n b l := by
  obtain ⟨a, x, e⟩ : ∃ a x, l = a ++ [x] := ⟨_, _, (List.dropLast_concat_getLast h).symm⟩
  subst e
  rw [List.dropLast_concat, segL_app, segL_app]
theorem segL_ok {l : Lg} (h : SgBd l) : ∀ p ∈ segL l.n l.first l.segs, Pt.Ok p := fun p hp => by
  obtain ⟨i, hi, rfl⟩ := List.mem_iff_getElem.1 hp
  have hi' : i < l.segs.length := by rwa [segL_len] at hi
  rw [pt_eq _ _ hi]
  obtain ⟨e1, e2⟩ := segL_at l.n l.first l.segs hi'
  rw [e1, e2]
  have h1 := h.n2
  have h2 := h.few
  have h3 := h.nxt
  have h4 : cntS (l.segs.take i) ≤ cntS l.segs := by
    have : cntS l.segs = cntS (l.segs.take i) + cntS (l.segs.drop i) := by rw [← cntS_append, List.take_append_drop]
    omega
  unfold nextG at h3
  unfold Pt.Ok
  simp only
  omega
def curB (l : Lg) : Nat := l.first + cntS l.segs.dropLast
theorem PtOwn.frm {e : TypeId} {F : Nat → Prop} {w w' : World} {base : Nat} {v : Value} {l : List Pt} (h : PtOwn e w base v l) (hf : Frm F w w') (hn : ∀ b, v.ownBlock = some b → ¬ F b) : PtOwn e w' base v l := by
  rcases h with h | ⟨g, cap, r, rfl, h2, h3, h4⟩
  · exact .inl h
  · exact .inr ⟨g, cap, r, rfl, h2, (hf.block g (block_lt h3) (hn g rfl)).trans h3, h4⟩
def Gone (w : World) (Gg : Nat → Prop) (v : Value) (gs : List (List Int)) : Prop := ∃ A c, v = .slice A gs.length c ∧ ∀ (F : Nat → Prop) (w' : World), Frm F w w' → (∀ b, Gg b → ¬ F b) → BRow w' w'.heap.size A gs
theorem Gone.frm {w w' : World} {Gg F : Nat → Prop} {v : Value} {gs : List (List Int)} (h : Gone w Gg v gs) (hf : Frm F w w') (hn : ∀ b, Gg b → ¬ F b) : Gone w' Gg v gs := by
  obtain ⟨A, c, e, h1⟩ := h
  refine ⟨A, c, e, fun F2 w2 hf2 hn2 => h1 (fun b => F b ∨ F2 b) w2 ?_ (fun b hb hor => hor.elim (hn b hb) (hn2 b hb))⟩
  exact (hf.mono (fun b hb => .inl hb)).trans hf2 (fun b hb => .inl (.inr hb))
theorem Gone.nil (w : World) : Gone w (fun _ => False) (.slice none 0 0) [] := ⟨none, 0, rfl, fun _ _ _ _ => BRow.nil _ _ _⟩
structure LgK (D : DevP) (w : World) (G : Nat → Prop) (g q : Nat) (d : Dv) (l : Lg) (Gd Gg : Nat → Prop) (sv gv : Value) (gs : List (List Int)) : Prop where
  dev : D w Gd g d
  sub : ∀ b, Gd b → G b
  gsub : ∀ b, Gg b → G b ∧ ¬ Gd b ∧ b ≠ q ∧ sv.ownBlock ≠ some b
  gq : G q ∧ ¬ Gd q
  box : w.heap[q]? = some (.cells #[.pointer (some ⟨g, 0, none⟩), .int .i64 (l.n : Nat), .int .i64 (l.first : Nat), sv, .int .i64 ((ckAll (lastS l)).length : Nat), .int .i64 (nextG l : Nat), .int .i64 (l.safe : Nat), gv] 72 (0, 0))
  own : PtOwn 67 w 0 sv (segL l.n l.first l.segs)
  sblk : ∀ b, sv.ownBlock = some b → G b ∧ ¬ Gd b ∧ b ≠ q
  gone : Gone w Gg gv gs
  gis : gs = (l.segs.take gs.length).map ckAll
  lt : ∀ b, G b → b < w.heap.size
  ngb : ∀ b, G b → ¬ gB b
def KLg (D : DevP) : LogP := fun w G g q d l => ∃ Gd Gg sv gv gs, LgK D w G g q d l Gd Gg sv gv gs ∧ SgAt d l gs.length
theorem LgK.frm {D : DevP} (Y : DevGl D) {w w' : World} {F G : Nat → Prop} {g q : Nat} {d : Dv} {l : Lg} {Gd Gg : Nat → Prop} {sv gv : Value} {gs : List (List Int)} (h : LgK D w G g q d l Gd Gg sv gv gs) (hf : Frm F w w') (hn : ∀ b, G b → ¬ F b) (gl : Gl w') : LgK D w' G g q d l Gd Gg sv gv gs :=
  ⟨Y.frm h.dev hf (fun b hb => hn b (h.sub b hb)) gl, h.sub, h.gsub, h.gq, (hf.block q (h.lt q h.gq.1) (hn q h.gq.1)).trans h.box, h.own.frm hf (fun b hb => hn b (h.sblk b hb).1), h.sblk, h.gone.frm hf (fun b hb => hn b (h.gsub b hb).1), h.gis, fun b hb => Nat.lt_of_lt_of_le (h.lt b hb) hf.size, h.ngb⟩
theorem LgK.below {D : DevP} (Y : DevGl D) {w w' : World} {G : Nat → Prop} {g q : Nat} {d : Dv} {l : Lg} {Gd Gg : Nat → Prop} {sv gv : Value} {gs : List (List Int)} (h : LgK D w G g q d l Gd Gg sv gv gs) (hb : Below w.heap.size w w') : LgK D w' G g q d l Gd Gg sv gv gs :=
  h.frm Y (F := fun _ => False) (Frm.of_below hb) (fun _ _ e => e) ((Y.gl h.dev).below hb)
theorem LgK.cell {D : DevP} {w : World} {G : Nat → Prop} {g q : Nat} {d : Dv} {l : Lg} {Gd Gg : Nat → Prop} {sv gv : Value} {gs : List (List Int)} (h : LgK D w G g q d l Gd Gg sv gv gs) :
    w.cell? ⟨q, 0, none⟩ = some (.pointer (some ⟨g, 0, none⟩)) ∧ w.cell? ⟨q, 1, none⟩ = some (.int .i64 (l.n : Nat)) ∧ w.cell? ⟨q, 2, none⟩ = some (.int .i64 (l.first : Nat)) ∧ w.cell? ⟨q, 3, none⟩ = some sv ∧ w.cell? ⟨q, 4, none⟩ = some (.int .i64 ((ckAll (lastS l)).length : Nat)) ∧ w.cell? ⟨q, 5, none⟩ = some (.int .i64 (nextG l : Nat)) ∧ w.cell? ⟨q, 6, none⟩ = some (.int .i64 (l.safe : Nat)) ∧ w.cell? ⟨q, 7, none⟩ = some gv := by
  have hb := h.box
  refine ⟨?_, ?_, ?_, ?_, ?_, ?_, ?_, ?_⟩ <;> (rw [cell_of_row w q _ _ _ _ hb]; rfl)
section
variable {D : DevP} {w : World} {G : Nat → Prop} {g q : Nat} {d : Dv} {l : Lg} {Gd Gg : Nat → Prop} {sv gv : Value} {gs : List (List Int)}
theorem first14 (h : LgK D w G g q d l Gd Gg sv gv gs) : Calls Tryz.prog 19 #[.pointer (some ⟨q, 0, none⟩)] w fun e w' => e = .returned (.int .i64 (l.first : Nat)) ∧ Below w.heap.size w w' := by
  obtain ⟨_, _, c2, _⟩ := h.cell
  clear h
  go_enter Tryz.func19, Tryz.ntmps19
  go_wp2
  go_ret
  exact ⟨rfl, Below.refl _ _⟩
theorem next14 (h : LgK D w G g q d l Gd Gg sv gv gs) : Calls Tryz.prog 18 #[.pointer (some ⟨q, 0, none⟩)] w fun e w' => e = .returned (.int .i64 (nextG l : Nat)) ∧ Below w.heap.size w w' := by
  obtain ⟨_, _, _, _, _, c5, _⟩ := h.cell
  clear h
  go_enter Tryz.func18, Tryz.ntmps18
  go_wp2
  go_ret
  exact ⟨rfl, Below.refl _ _⟩
theorem safe14 (h : LgK D w G g q d l Gd Gg sv gv gs) : Calls Tryz.prog 15 #[.pointer (some ⟨q, 0, none⟩)] w fun e w' => e = .returned (.int .i64 (l.safe : Nat)) ∧ Below w.heap.size w w' := by
  obtain ⟨_, _, _, _, _, _, c6, _⟩ := h.cell
  clear h
  go_enter Tryz.func15, Tryz.ntmps15
  go_wp2
  go_ret
  exact ⟨rfl, Below.refl _ _⟩
theorem LgK.slice (h : LgK D w G g q d l Gd Gg sv gv gs) (ha : SgBd l) : ∃ A c, sv = .slice A l.segs.length c ∧ Row .i64 w w.heap.size A (flP (segL l.n l.first l.segs)) ∧ l.segs.length ≤ c ∧ c ≤ maxLen := by
  obtain ⟨A, c, e, h1, h2, h3⟩ := h.own.row (segL_ok ha)
  rw [segL_len] at e h2
  exact ⟨A, c, e, h1, h2, h3⟩
theorem segments14 (h : LgK D w G g q d l Gd Gg sv gv gs) (ha : SgBd l) : Calls Tryz.prog 38 #[.pointer (some ⟨q, 0, none⟩)] w fun e w' => e = .returned (.int .i64 (l.segs.length : Nat)) ∧ Below w.heap.size w w' := by
  obtain ⟨A, c, rfl, _⟩ := h.slice ha
  obtain ⟨_, _, _, c3, _⟩ := h.cell
  clear h ha
  go_enter Tryz.func38, Tryz.ntmps38
  go_wp2
  go_ret
  exact ⟨rfl, Below.refl _ _⟩
theorem isFull14 (h : LgK D w G g q d l Gd Gg sv gv gs) : Calls Tryz.prog 49 #[.pointer (some ⟨q, 0, none⟩)] w fun e w' => e = .returned (.bool (fullS l)) ∧ Below w.heap.size w w' := by
  obtain ⟨_, _, _, _, c4, _⟩ := h.cell
  clear h
  have hf : fullS l = decide ((((ckAll (lastS l)).length : Nat) : Int) ≥ 1024) := by
    unfold fullS
    by_cases h0 : l.segs = []
    · have : lastS l = [] := by unfold lastS; rw [h0]; rfl
      rw [this, h0]; rfl
    · rw [decide_eq_decide]
      constructor
      · rintro ⟨_, h⟩; omega
      · intro h; exact ⟨h0, by omega⟩
  obtain ⟨b, hb⟩ : ∃ b, fullS l = b := ⟨_, rfl⟩
  rw [hb] at hf ⊢
  clear hb
  generalize (ckAll (lastS l)).length = n at c4 hf
  cases b with
  | true =>
    have h1 : (n : Int) ≥ 1024 := of_decide_eq_true hf.symm
    clear hf
    go_enter Tryz.func49, Tryz.ntmps49
    go_wp2
    go_ret
    exact ⟨rfl, Below.refl _ _⟩
  | false =>
    have h1 : ¬ (n : Int) ≥ 1024 := of_decide_eq_false hf.symm
    clear hf
    go_enter Tryz.func49, Tryz.ntmps49
    go_wp2
    go_ret
    exact ⟨rfl, Below.refl _ _⟩
theorem current14 (h : LgK D w G g q d l Gd Gg sv gv gs) (ha : SgBd l) : Calls Tryz.prog 48 #[.pointer (some ⟨q, 0, none⟩)] w fun e w' => e = .returned (.agg #[.int .i64 (curN l : Nat), .int .i64 (curB l : Nat)]) ∧ Below w.heap.size w w' := by
  obtain ⟨A, c, rfl, hr, hc, hm⟩ := h.slice ha
  obtain ⟨_, c1, c2, c3, _⟩ := h.cell
  have hq : q < w.heap.size := h.lt q h.gq.1
  have bx := Lib.hid (bel_alloc w (.cells #[.int .i64 0, .int .i64 0] 67))
  by_cases h0 : l.segs = []
  · have e1 : curN l = l.n := by unfold curN; rw [h0]; simp
    have e2 : curB l = l.first := by unfold curB; rw [h0]; simp [cntS]
    have e3 : l.segs.length = 0 := by rw [h0]; rfl
    rw [e3] at c3
    rw [e1, e2]
    clear h hr hc hm h0 e1 e2 e3 ha
    go_enter Tryz.func48, Tryz.ntmps48
    go_wp2
    refine bodyPost_ret (v := .agg #[.int .i64 (l.n : Nat), .int .i64 (l.first : Nat)]) (by simp [results, Tryz.results48, go_sem]) rfl ?_
    exact ⟨rfl, bel_alloc w _⟩
  · have hp : 0 < l.segs.length := List.length_pos_iff.2 h0
    obtain ⟨b, o, rfl, hb, p1, p2⟩ := hr.pt (k := l.segs.length - 1) (by rw [segL_len]; omega)
    obtain ⟨e1, e2⟩ := segL_at l.n l.first l.segs (i := l.segs.length - 1) (by omega)
    rw [e1] at p1
    rw [e2] at p2
    have e4 : curB l = l.first + cntS (l.segs.take (l.segs.length - 1)) := by unfold curB; rw [List.dropLast_eq_take]
    have e5 : curN l = l.n + (l.segs.length - 1) := rfl
    have hfew := ha.few
    rw [← e5] at p1
    rw [← e4] at p2
    generalize curN l = N at p1 ⊢
    generalize curB l = B at p2 ⊢
    generalize l.segs.length = m at c3 hp hc p1 p2 hfew
    have i1 : ¬ (m : Int) = 0 := by omega
    obtain ⟨k, rfl⟩ : ∃ k, m = k + 1 := ⟨m - 1, by omega⟩
    rw [show k + 1 - 1 = k by omega] at p1 p2
    have hwr : IntKind.i64.wrap (k : Int) = (k : Int) := by rw [IntKind.wrap_i64]; omega
    clear h hr h0 e1 e2 e4 e5 hp ha
    go_enter Tryz.func48, Tryz.ntmps48
    go_wp2
    go_region
    go_wp2
    refine bodyPost_ret (v := .agg #[.int .i64 (N : Nat), .int .i64 (B : Nat)]) (by simp [results, Tryz.results48, go_sem]) rfl ?_
    exact ⟨rfl, below_drew (bel_alloc w _)⟩
end
end Go.Proofs.YtbdhhmhlcdganaaGreatDoor
namespace Go.Proofs.YtbdhhmhlcdganaaGreatDoor
open Go.RowKit
set_option linter.unusedVariables false
set_option maxRecDepth 100000

section
variable {D : DevP} {w w' : World} {G : Nat → Prop} {g q : Nat} {d : Dv} {l : Lg} {Gd Gg : Nat → Prop} {sv gv : Value} {gs : List (List Int)}
theorem LgK.did (Y : DevGl D) (h : LgK D w G g q d l Gd Gg sv gv gs) {d' : Dv} {Gd' : Nat → Prop} (s : Did D Gd g d' w w' Gd') : LgK D w' (fun b => G b ∨ Gd' b) g q d' l Gd' Gg sv gv gs := by
  obtain ⟨s1, s2, s3⟩ := s
  have gl := Y.gl h.dev
  refine ⟨s1, fun b hb => .inr hb, fun b hb => ?_, ⟨.inl h.gq.1, fun e => ?_⟩, (s2.block q (h.lt q h.gq.1) h.gq.2).trans h.box, h.own.frm s2 (fun b hb => (h.sblk b hb).2.1), fun b hb => ?_, h.gone.frm s2 (fun b hb => (h.gsub b hb).2.1), h.gis, fun b hb => ?_, fun b hb => ?_⟩
  · obtain ⟨h1, h2, h3⟩ := h.gsub b hb
    exact ⟨.inl h1, fun e => (s3 b e).elim h2 (fun e => by have := h.lt b h1; omega), h3⟩
  · exact (s3 q e).elim h.gq.2 (fun e => by have := h.lt q h.gq.1; omega)
  · obtain ⟨h1, h2, h3⟩ := h.sblk b hb
    exact ⟨.inl h1, fun e => (s3 b e).elim h2 (fun e => by have := h.lt b h1; omega), h3⟩
  · rcases hb with hb | hb
    · exact Nat.lt_of_lt_of_le (h.lt b hb) s2.size
    · exact Y.lt s1 b hb
  · rcases hb with hb | hb
    · exact h.ngb b hb
    · exact (s3 b hb).elim (fun e => h.ngb b (h.sub b e)) (fun e e2 => by have := gl.lt e2; omega)
theorem LgK.rebox (Y : DevGl D) (h : LgK D w G g q d l Gd Gg sv gv gs) {l' : Lg} {sv' : Value} (hf : Frm (fun b => b = q ∨ sv.ownBlock = some b) w w')
    (box : w'.heap[q]? = some (.cells #[.pointer (some ⟨g, 0, none⟩), .int .i64 (l'.n : Nat), .int .i64 (l'.first : Nat), sv', .int .i64 ((ckAll (lastS l')).length : Nat), .int .i64 (nextG l' : Nat), .int .i64 (l'.safe : Nat), gv] 72 (0, 0)))
    (own : PtOwn 67 w' 0 sv' (segL l'.n l'.first l'.segs)) (hsv : ∀ b, sv'.ownBlock = some b → sv.ownBlock = some b ∨ w.heap.size ≤ b) (gis : gs = (l'.segs.take gs.length).map ckAll) :
    LgK D w' (fun b => G b ∨ sv'.ownBlock = some b) g q d l' Gd Gg sv' gv gs := by
  have gl := Y.gl h.dev
  have gl' : Gl w' := gl.frm hf (fun b hb => by
    rcases hb with rfl | hb
    · exact h.ngb _ h.gq.1
    · exact h.ngb b (h.sblk b hb).1)
  refine ⟨Y.frm h.dev hf (fun b hb e => ?_) gl', fun b hb => .inl (h.sub b hb), fun b hb => ?_, ⟨.inl h.gq.1, h.gq.2⟩, box, own, fun b hb => ⟨.inr hb, fun e => ?_, fun e => ?_⟩, h.gone.frm hf (fun b hb e => ?_), gis, fun b hb => ?_, fun b hb => ?_⟩
  · rcases e with rfl | e
    · exact h.gq.2 hb
    · exact (h.sblk b e).2.1 hb
  · obtain ⟨h1, h2, h3, h4⟩ := h.gsub b hb
    exact ⟨.inl h1, h2, h3, fun e => (hsv b e).elim h4 (fun e => by have := h.lt b h1; omega)⟩
  · exact (hsv b hb).elim (fun e2 => (h.sblk b e2).2.1 e) (fun e2 => by have := h.lt b (h.sub b e); omega)
  · subst e
    exact (hsv _ hb).elim (fun e2 => (h.sblk _ e2).2.2 rfl) (fun e2 => by have := h.lt _ h.gq.1; omega)
  · obtain ⟨h1, h2, h3, h4⟩ := h.gsub b hb
    rcases e with rfl | e
    · exact h3 rfl
    · exact h4 e
  · rcases hb with hb | hb
    · exact Nat.lt_of_lt_of_le (h.lt b hb) hf.size
    · exact (own.block b hb).2
  · rcases hb with hb | hb
    · exact h.ngb b hb
    · exact (hsv b hb).elim (fun e => h.ngb b (h.sblk b e).1) (fun e e2 => by have := gl.lt e2; omega)
theorem LgK.frmG (h : LgK D w G g q d l Gd Gg sv gv gs) (hf : Frm (fun b => b = q ∨ sv.ownBlock = some b) w w') : Frm G w w' := hf.mono (fun b hb => by
  rcases hb with rfl | hb
  · exact h.gq.1
  · exact (h.sblk b hb).1)
theorem LgK.safe (Y : DevGl D) (h : LgK D w G g q d l Gd Gg sv gv gs) (n : Nat) : LgK D (w.setCell ⟨q, 6, none⟩ (.int .i64 (n : Nat))) (fun b => G b ∨ sv.ownBlock = some b) g q d { l with safe := n } Gd Gg sv gv gs := by
  have hf : Frm (fun b => b = q ∨ sv.ownBlock = some b) w (w.setCell ⟨q, 6, none⟩ (.int .i64 (n : Nat))) := Frm.set w q 6 _ (.inl rfl)
  refine h.rebox Y hf ?_ ?_ (fun b hb => .inl hb) h.gis
  · have := Joins.block_setCell (i := 6) h.box (.int .i64 (n : Nat))
    exact this
  · exact h.own.frm (Frm.set (F := fun b => b = q) w q 6 _ rfl) (fun b hb e => (h.sblk b hb).2.2 e)
theorem down14 (Y : DevOkG D) (h : LgK D w G g q d l Gd Gg sv gv gs) (ok : Dv.Ok d) : ∀ W, Below w.heap.size w W → Calls Tryz.prog 33 #[.pointer (some ⟨g, 0, none⟩)] W fun e w' => e = .returned (.bool d.off) ∧ Below w.heap.size w w' ∧ LgK D w' G g q d l Gd Gg sv gv gs := fun W hW => by
  have h2 := h.below Y.dev hW
  refine (Y.down h2.dev ok).mono ?_
  rintro e w' ⟨he, hb⟩
  exact ⟨he, hW.trans (hb.mono hW.size), h2.below Y.dev hb⟩
end
theorem lstp_same {K : LogP} {G : Nat → Prop} {g q : Nat} {d : Dv} {l : Lg} {v : Value} {w w' : World} (h : K w' G g q d l) (hb : Below w.heap.size w w') : LStp K G g q d l v w (.returned v) w' := ⟨rfl, G, h, Frm.of_below hb, fun b hb => .inl hb⟩
set_option maxHeartbeats 1000000 in
theorem sync14 {D : DevP} (Y : DevOkG D) {w : World} {G : Nat → Prop} {g q : Nat} {d d' : Dv} {l l' : Lg} {E : Int} (hk : KLg D w G g q d l) (he : syncG d l = (d', l', E)) : Calls Tryz.prog 30 #[.pointer (some ⟨q, 0, none⟩)] w (LStp (KLg D) G g q d' l' (.int .i64 E) w) := by
  obtain ⟨Gd, Gg, sv, gv, gs, h, ha⟩ := hk
  have HDN := Lib.hid (down14 Y h ha.ok w (Below.refl _ _))
  by_cases hoff : d.off = true
  · have e0 : syncG d l = (d, l, 10) := if_pos hoff
    rw [e0] at he
    injection he with e1 he; injection he with e2 e3
    subst e1 e2 e3
    rw [hoff] at HDN
    have HA := Lib.hid ha
    have c0 := h.cell.1
    clear h e0 hoff ha
    go_enter Tryz.func30, Tryz.ntmps30
    go_wp2_with fail
    refine HDN.out.mono ?_
    rintro e w1 ⟨rfl, b1, h1⟩
    have HQ := Lib.hid (lstp_same (K := KLg D) (v := .int .i64 10) (⟨_, _, _, _, _, h1, HA.out⟩ : KLg D w1 G g q d l) b1)
    clear h1
    go_wp2
    go_ret
    exact HQ.out
  have hoff' : d.off = false := by simpa using hoff
  rw [hoff'] at HDN
  by_cases hs : l.safe = nextG l
  · have e0 : syncG d l = (d, l, 0) := by unfold syncG; rw [if_neg hoff, if_pos hs]
    rw [e0] at he
    injection he with e1 he; injection he with e2 e3
    subst e1 e2 e3
    have HA := Lib.hid ha
    have c0 := h.cell.1
    clear e0 hoff hoff' h ha
    go_enter Tryz.func30, Tryz.ntmps30
    go_wp2_with fail
    refine HDN.out.mono ?_
    rintro e w1 ⟨rfl, b1, h1⟩
    obtain ⟨_, _, _, _, _, c5, c6, _⟩ := h1.cell
    rw [hs] at c6
    have HQ2 : Hid (LStp (KLg D) G g q d l (.int .i64 0) w (.returned (.int .i64 0)) w1.drew) := Lib.hid (lstp_same (K := KLg D) (v := .int .i64 0) (⟨_, _, _, _, _, h1.below Y.dev (below_drew (Below.refl _ _)), HA.out⟩ : KLg D w1.drew G g q d l) (below_drew b1))
    clear h1 hs
    go_wp2
    go_region
    go_wp2
    go_ret
    exact HQ2.out
  obtain ⟨hgs, his⟩ := ha.live hoff'
  have h0 : l.segs ≠ [] := fun h9 => hs (by rw [his.saf.1 h9]; unfold nextG; rw [h9]; simp [cntS])
  obtain ⟨d2, l2, e2, q2, s1, s2, s3, s4, s5, s6, s7, s8, s9, s10⟩ := sync_is his
  rw [he] at q2
  injection q2 with q3 q4; injection q4 with q4 q5
  subst q3 q4 q5
  obtain ⟨ds, es, qs⟩ : ∃ ds es, syncD d (segN (curN l)) = (ds, es) := ⟨_, _, rfl⟩
  have hsg : syncG d l = if es = 0 then (ds, { l with safe := nextG l }, 0) else (ds, l, 10) := by
    unfold syncG
    rw [if_neg hoff, if_neg hs, qs]
  have hlk : lkF d (segN (curN l)) ≠ none := by
    obtain ⟨hk, _, hc, _⟩ := last_at h0
    obtain ⟨y, hy, _⟩ := his.at_ _ hk
    rw [← hc] at hy
    rw [hy]
    simp
  have hcn : curN l < 10 ^ 12 := by
    apply Nat.lt_of_not_le
    intro hb
    exact hlk (long_name his.ok (segN_long hb))
  have hc1 : 1 ≤ curN l := by have := his.lim; unfold curN; omega
  have at1 : SgAt d' l' gs.length := by
    rw [hgs]
    exact s5.sat (by rw [s2]; exact ha.n2) (by rw [s3]; exact ha.fst) (by unfold nextG; rw [s1, s3]; exact ha.nxt)
  have HCU : Hid (∀ W, Below w.heap.size w W → Calls Tryz.prog 48 #[.pointer (some ⟨q, 0, none⟩)] W fun e w' => e = .returned (.agg #[.int .i64 (curN l : Nat), .int .i64 (curB l : Nat)]) ∧ Below w.heap.size w w' ∧ w'.cell? ⟨q, 0, none⟩ = some (.pointer (some ⟨g, 0, none⟩))) := Lib.hid fun W hW => by
    refine (current14 (h.below Y.dev hW) ha.bd).mono ?_
    rintro e w' ⟨he, hb⟩
    have hb2 := hW.trans (hb.mono hW.size)
    exact ⟨he, hb2, (h.below Y.dev hb2).cell.1⟩
  have HFI : Hid (∀ W, Below w.heap.size w W → Calls Tryz.prog 50 #[.agg #[.int .i64 (curN l : Nat), .int .i64 (curB l : Nat)]] W fun e w' => e = .returned (.string (segN (curN l))) ∧ Below w.heap.size w w' ∧ w'.cell? ⟨q, 0, none⟩ = some (.pointer (some ⟨g, 0, none⟩))) := Lib.hid fun W hW => by
    refine (file_any (curN l) _ hc1 (by omega) W ((Y.dev.gl h.dev).below hW)).mono ?_
    rintro e w' ⟨he, hb⟩
    have hb2 := hW.trans (hb.mono hW.size)
    exact ⟨he, hb2, (h.below Y.dev hb2).cell.1⟩
  have HSY : Hid (∀ W, Below w.heap.size w W → Calls Tryz.prog 64 #[.pointer (some ⟨g, 0, none⟩), .string (segN (curN l))] W fun e w' => e = .returned (.int .i64 es) ∧ w'.cell? ⟨q, 0, none⟩ = some (.pointer (some ⟨g, 0, none⟩)) ∧ ∃ Gd', LgK D W G g q d l Gd Gg sv gv gs ∧ Did D Gd g ds W w' Gd') := Lib.hid fun W hW => by
    have h2 := h.below Y.dev hW
    refine (Y.sync (segN (curN l)) h2.dev his.ok).mono ?_
    rintro e w' ⟨he, Gd', hd⟩
    rw [qs] at he hd
    exact ⟨he, (h2.did Y.dev hd).cell.1, Gd', h2, hd⟩
  have hEND : ∀ W w' Gd', Below w.heap.size w W → LgK D W G g q d l Gd Gg sv gv gs → Did D Gd g ds W w' Gd' → LgK D w' (fun b => G b ∨ Gd' b) g q ds l Gd' Gg sv gv gs ∧ Frm G w w' ∧ (∀ b, Gd' b → G b ∨ w.heap.size ≤ b) := fun W w' Gd' hW h2 hd =>
    ⟨h2.did Y.dev hd, (Frm.of_below hW).trans (hd.2.1.mono h2.sub) (fun i hi => .inl hi), fun b hb => (hd.2.2 b hb).imp (h.sub b) (fun e => Nat.le_trans hW.size e)⟩
  have c0 := h.cell.1
  have c5 := h.cell.2.2.2.2.2.1
  have c6 := h.cell.2.2.2.2.2.2.1
  have hq := h.gq.1
  have HGQ := Lib.hid h.sblk
  have hne : ¬ ((l.safe : Int) = (nextG l : Int)) := by omega
  rcases s9 with ⟨rfl, s11, s12, s13⟩ | ⟨rfl, rfl, s11, s12⟩
  · have hes : es = 0 := Classical.byContradiction fun hn => by rw [hsg, if_neg hn] at he; injection he with _ he; injection he with _ he; cases he
    subst hes
    rw [hsg, if_pos rfl] at he
    injection he with e1 he; injection he with e2 _
    subst e1 e2
    have HEND : Hid (∀ W w' Gd', Below w.heap.size w W → LgK D W G g q d l Gd Gg sv gv gs → Did D Gd g ds W w' Gd' → w'.cell? ⟨q, 5, none⟩ = some (.int .i64 (nextG l : Nat)) ∧ w'.cell? ⟨q, 6, none⟩ = some (.int .i64 (l.safe : Nat)) ∧ w'.frozen? ⟨q, 6, none⟩ = false ∧ LStp (KLg D) G g q ds { l with safe := nextG l } (.int .i64 0) w (.returned (.int .i64 0)) (w'.setCell ⟨q, 6, none⟩ (.int .i64 (nextG l : Nat)))) := Lib.hid fun W w' Gd' hW h2 hd => by
      obtain ⟨h3, h4, h5⟩ := hEND W w' Gd' hW h2 hd
      obtain ⟨_, _, _, _, _, x5, x6, _⟩ := h3.cell
      refine ⟨x5, x6, Joins.unfrozen_of_block h3.box 6, rfl, _, ⟨_, _, _, _, _, h3.safe Y.dev (nextG l), at1⟩, h4.trans (Frm.set w' q 6 _ hq) (fun i hi => .inl hi), fun b hb => ?_⟩
      rcases hb with (hb | hb) | hb
      · exact .inl hb
      · exact h5 b hb
      · exact .inl (HGQ.out b hb).1
    clear hEND h ha at1 hsg qs s1 s2 s3 s4 s5 s6 s7 s8 s10 s11 s12 s13 his hlk hs hcn hc1
    go_enter Tryz.func30, Tryz.ntmps30
    go_wp2_with fail
    refine HDN.out.mono ?_
    rintro e w1 ⟨rfl, b1, h1⟩
    obtain ⟨c01, _, _, _, _, c51, c61, _⟩ := h1.cell
    have BD : Hid (Below w.heap.size w w1.drew.drew) := Lib.hid (below_drew (below_drew b1))
    clear h1 c0 c5 c6
    go_wp2
    go_region
    go_wp2
    have hx : w1.drew.drew.cell? ⟨q, 0, none⟩ = some (.pointer (some ⟨g, 0, none⟩)) := c01
    go_region_held3 (fun w9 => w9.cell? ⟨q, 0, none⟩ = some (.pointer (some ⟨g, 0, none⟩))) (assumption) (first
      | (go_at_call 48; refine (HCU.out _ BD.out).mono ?_; rintro e w2 ⟨rfl, d2, x2⟩)
      | (go_at_call 50; refine (HFI.out _ d2).mono ?_; rintro e w3 ⟨rfl, d3, x3⟩)
      | (go_at_call 64; refine (HSY.out _ d3).mono ?_; rintro e w4 ⟨rfl, x4, Gd', hl, hd⟩))
    all_goals
      obtain ⟨y5, y6, yf, HQ⟩ := HEND.out _ _ _ d3 hl hd
      have HQ2 := Lib.hid HQ
      clear HQ hl hd
      go_wp2
      go_ret
      exact HQ2.out
  · have hes : es ≠ 0 := fun hn => by rw [hsg, if_pos hn] at he; injection he with _ he; injection he with _ he; cases he
    rw [hsg, if_neg hes] at he
    injection he with e1 he
    subst e1
    have h10 : es = 10 := by
      have h9 := sync_err his.ok hlk
      rw [qs] at h9
      exact h9 hes
    subst h10
    have HEND : Hid (∀ W w' Gd', Below w.heap.size w W → LgK D W G g q d l' Gd Gg sv gv gs → Did D Gd g ds W w' Gd' → LStp (KLg D) G g q ds l' (.int .i64 10) w (.returned (.int .i64 10)) w') := Lib.hid fun W w' Gd' hW h2 hd => by
      obtain ⟨h3, h4, h5⟩ := hEND W w' Gd' hW h2 hd
      refine ⟨rfl, _, ⟨_, _, _, _, _, h3, at1⟩, h4, fun b hb => ?_⟩
      rcases hb with hb | hb
      · exact .inl hb
      · exact h5 b hb
    clear hEND h ha at1 hsg qs s1 s2 s3 s4 s5 s6 s7 s8 s10 s11 s12 his hlk hs hcn hc1
    go_enter Tryz.func30, Tryz.ntmps30
    go_wp2_with fail
    refine HDN.out.mono ?_
    rintro e w1 ⟨rfl, b1, h1⟩
    obtain ⟨c01, _, _, _, _, c51, c61, _⟩ := h1.cell
    have BD : Hid (Below w.heap.size w w1.drew.drew) := Lib.hid (below_drew (below_drew b1))
    clear h1 c0 c5 c6
    go_wp2
    go_region
    go_wp2
    have hx : w1.drew.drew.cell? ⟨q, 0, none⟩ = some (.pointer (some ⟨g, 0, none⟩)) := c01
    go_region_held3 (fun w9 => w9.cell? ⟨q, 0, none⟩ = some (.pointer (some ⟨g, 0, none⟩))) (assumption) (first
      | (go_at_call 48; refine (HCU.out _ BD.out).mono ?_; rintro e w2 ⟨rfl, d2, x2⟩)
      | (go_at_call 50; refine (HFI.out _ d2).mono ?_; rintro e w3 ⟨rfl, d3, x3⟩)
      | (go_at_call 64; refine (HSY.out _ d3).mono ?_; rintro e w4 ⟨rfl, x4, Gd', hl, hd⟩))
    all_goals
      have HQ2 := Lib.hid (HEND.out _ _ _ d3 hl hd)
      clear hl hd
      go_wp2
      go_ret
      exact HQ2.out
end Go.Proofs.YtbdhhmhlcdganaaGreatDoor
namespace Go.Proofs.YtbdhhmhlcdganaaGreatDoor
open Go.RowKit
set_option linter.unusedVariables false
set_option maxRecDepth 100000

theorem info_seg : (Tryz.prog.info? 67).map (fun i => (i.zero, i.size, i.bytes)) = some (some (.agg #[.int .i64 0, .int .i64 0]), 2, 16) := by kernel_rfl
section
variable {P : Program}
theorem step_append_ty {ops : Array Oper} {o : Oper} {a : Act} {K : Act → World → Prop} {Q : Exit → Act → World → Prop} {E : Prop} (w : World) (hgd : o.guard = none) (s x : Operand) (t : TypeId)
    (ho : o.op = .call { callee := .builtin .append, args := #[s, x], argTypes := #[t, t] }) (v u v' : Value) (w' : World) (hs : a.eval s = v) (hx : a.eval x = u)
    (hrun : (Builtin.append_ #[t, t] o.type #[v, u]).run P w = .ok v' w') (h : K (a.put o.dst v') w') :
    if Region.wanted o (yielded ops a.tmps) = true then Oper.wp P o a w K Q else E := by
  have hw : Region.wanted o (yielded ops a.tmps) = true := by simp [Region.wanted, hgd]
  rw [if_pos hw]
  unfold Oper.wp execOp
  simp only [ho, resolve, invoke, builtin, Sem.run_bind, Sem.run_pure, Result.andThen_ok, List.map_toArray, List.map_cons, List.map_nil, hs, hx, hrun]
  exact h
end
section
variable {P : Program}
theorem pt_app_block (w : World) (base : Nat) (t ty e : TypeId) (ht : P.underlying t = some (.slice e)) (hi : (P.info? e).map (fun i => (i.zero, i.size, i.bytes)) = some (some (.agg #[.int .i64 0, .int .i64 0]), 2, 16))
    (v : Value) (l : List Pt) (hown : PtOwn e w base v l) (a : Addr) (c : Nat) (x y : Int) (hnews : ∀ j u, [Value.int .i64 x, .int .i64 y][j]? = some u → w.cell? (a.add j) = some u) (hb : (l.length + 1) * 16 ≤ 140737488355328)
    {v' : Value} {w' : World} (hrun : (Builtin.append_ #[t, t] ty #[v, .slice (some a) 1 c]).run P w = .ok v' w') : ∀ b, v'.ownBlock = some b → v.ownBlock = some b ∨ w.heap.size ≤ b := by
  obtain ⟨i, hi1, hz, hsz, hby⟩ := info_parts hi
  have hl : [Value.int .i64 x, .int .i64 y].length = 1 * i.size := by rw [hsz]; rfl
  rcases hown with ⟨rfl, rfl⟩ | ⟨g, cap, r, rfl, h2, h3, h4, h5⟩
  · have hr := run_append_nil (P := P) w t ty e i _ ht hi1 hz a 1 c _ hl hnews (by omega) (by omega) (by rw [hby]; omega)
    rw [hrun] at hr
    injection hr with e1 e2
    subst e1
    intro b hb
    injection hb with hb
    have hb2 : w.heap.size = b := hb
    exact .inr (by omega)
  · by_cases hroom : l.length + 1 ≤ cap
    · have hcs : (blk .i64 (flP (l ++ r))).size = 2 * cap := by rw [blk_size, flP_len, List.length_append]; omega
      have hr := run_append_room (P := P) w t ty e i ht hi1 g l.length cap _ h3 a 1 c _ hl hnews (by simp [Value.oneCell']) hroom (by rw [hsz, hcs]; simp; omega)
      rw [hrun] at hr
      injection hr with e1 e2
      subst e1
      intro b hb
      exact .inl hb
    · have hcn : l.length = cap := by omega
      have hr0 : r = [] := List.eq_nil_of_length_eq_zero (by omega)
      subst hr0
      rw [List.append_nil] at h3
      have holds : ∀ j u, ((flP l).map (Value.int .i64))[j]? = some u → w.cell? ((⟨g, 0, none⟩ : Addr).add j) = some u := by
        intro j u hu
        rw [Go.WideShapes.add_plain, Nat.zero_add, cell_of_row w g j _ _ _ h3]
        simpa [blk] using hu
      have hr := run_append_grow (P := P) w t ty e i _ ht hi1 hz ⟨g, 0, none⟩ l.length cap _ (by rw [hsz, List.length_map, flP_len]; omega) holds a 1 c _ hl hnews (by omega) (by omega) (growslice_fits (by omega) (by rw [hby]; omega))
      rw [hrun] at hr
      injection hr with e1 e2
      subst e1
      intro b hb
      injection hb with hb
      have hb2 : w.heap.size = b := hb
      exact .inr (by omega)
end
def LStq (D : DevP) (w : World) (G : Nat → Prop) (g q : Nat) (d : Dv) (l' : Lg) (Gd Gg : Nat → Prop) (gv : Value) (gs : List (List Int)) (w' : World) : Prop := ∃ G' sv', LgK D w' G' g q d l' Gd Gg sv' gv gs ∧ Frm G w w' ∧ ∀ b, G' b → G b ∨ w.heap.size ≤ b
section
variable {D : DevP} {w w' : World} {G : Nat → Prop} {g q : Nat} {d : Dv} {l : Lg} {Gd Gg : Nat → Prop} {sv gv : Value} {gs : List (List Int)}
theorem LgK.count (Y : DevGl D) (h : LgK D w G g q d l Gd Gg sv gv gs) {l' : Lg} {n m : Nat} (e1 : l'.n = l.n) (e2 : l'.first = l.first) (e3 : l'.safe = l.safe) (e4 : segL l'.n l'.first l'.segs = segL l.n l.first l.segs) (e5 : (ckAll (lastS l')).length = n) (e6 : nextG l' = m) (gis : gs = []) :
    LStq D w G g q d l' Gd Gg gv gs ((w.setCell ⟨q, 4, none⟩ (.int .i64 (n : Nat))).setCell ⟨q, 5, none⟩ (.int .i64 (m : Nat))) := by
  have f1 : Frm (fun b => b = q ∨ sv.ownBlock = some b) w (w.setCell ⟨q, 4, none⟩ (.int .i64 (n : Nat))) := Frm.set w q 4 _ (.inl rfl)
  have f2 := f1.trans (Frm.set (F := fun b => b = q ∨ sv.ownBlock = some b) (w.setCell ⟨q, 4, none⟩ (.int .i64 (n : Nat))) q 5 (.int .i64 (m : Nat)) (.inl rfl)) (fun i hi => .inl hi)
  have b1 := Joins.block_setCell (i := 4) h.box (.int .i64 (n : Nat))
  have b2 := Joins.block_setCell (i := 5) b1 (.int .i64 (m : Nat))
  have ho : PtOwn 67 ((w.setCell ⟨q, 4, none⟩ (.int .i64 (n : Nat))).setCell ⟨q, 5, none⟩ (.int .i64 (m : Nat))) 0 sv (segL l'.n l'.first l'.segs) := by
    rw [e4]
    exact (h.own.frm (Frm.set (F := fun b => b = q) w q 4 _ rfl) (fun b hb e => (h.sblk b hb).2.2 e)).frm (Frm.set (F := fun b => b = q) _ q 5 _ rfl) (fun b hb e => (h.sblk b hb).2.2 e)
  refine ⟨_, sv, h.rebox Y f2 ?_ ho (fun b hb => .inl hb) (by rw [gis]; rfl), h.frmG f2, fun b hb => ?_⟩
  · rw [e1, e2, e3, e5, e6]
    exact b2
  · rcases hb with hb | hb
    · exact .inl hb
    · exact .inl (h.sblk b hb).1
set_option maxHeartbeats 1000000 in
theorem enterOld (Y : DevOkG D) (h : LgK D w G g q d l Gd Gg sv gv gs) (ha : SgBd l) (hgs : gs = []) (h0 : l.segs ≠ []) (p : List Int) (hp : p.length ≤ 1024) :
    Calls Tryz.prog 51 #[.pointer (some ⟨q, 0, none⟩), .agg #[.int .i64 (curN l : Nat), .int .i64 (curB l : Nat)], .int .i64 ((ckL p).length : Nat)] w fun e w' => e = .returned (.tuple #[]) ∧ LStq D w G g q d { l with segs := l.segs.dropLast ++ [lastS l ++ [p]] } Gd Gg gv gs w' := by
  have hp0 : 0 < l.segs.length := List.length_pos_iff.2 h0
  obtain ⟨A, c, rfl, _, hc, hm⟩ := h.slice ha
  obtain ⟨sz, hsz⟩ : ∃ sz, (ckL p).length = sz := ⟨_, rfl⟩
  have hsz2 : sz ≤ 1030 := by rw [← hsz, ckL_len]; omega
  have hL := ha.siz
  have hnx := ha.nxt
  have hfew := ha.few
  have e5 : (ckAll (lastS { l with segs := l.segs.dropLast ++ [lastS l ++ [p]] })).length = (ckAll (lastS l)).length + sz := by
    have : lastS { l with segs := l.segs.dropLast ++ [lastS l ++ [p]] } = lastS l ++ [p] := by unfold lastS; simp
    rw [this, ckAll_app, List.length_append, ← hsz]
    simp [ckAll]
  have e6 : nextG { l with segs := l.segs.dropLast ++ [lastS l ++ [p]] } = nextG l + 1 := by
    unfold nextG
    rw [cntS_append, cntS_last h0]
    simp [cntS]
    omega
  have HEND : Hid (∀ W, Below w.heap.size w W → LStq D w G g q d { l with segs := l.segs.dropLast ++ [lastS l ++ [p]] } Gd Gg gv gs ((W.setCell ⟨q, 4, none⟩ (.int .i64 ((ckAll (lastS l)).length + sz : Nat))).setCell ⟨q, 5, none⟩ (.int .i64 (nextG l + 1 : Nat)))) := Lib.hid fun W hW => by
    obtain ⟨G', sv', r1, r2, r3⟩ := (h.below Y.dev hW).count Y.dev (l' := { l with segs := l.segs.dropLast ++ [lastS l ++ [p]] }) rfl rfl rfl (segL_last _ _ h0 _) e5 e6 hgs
    exact ⟨G', sv', r1, (Frm.of_below hW).trans r2 (fun i hi => .inl hi), fun b hb => (r3 b hb).imp id (fun e => Nat.le_trans hW.size e)⟩
  have hb0 := bel_alloc w (.cells #[.int .i64 (curN l : Nat), .int .i64 (curB l : Nat)] 67)
  obtain ⟨w0, hw0⟩ : ∃ w0, w.alloc (.cells #[.int .i64 (curN l : Nat), .int .i64 (curB l : Nat)] 67) = w0 := ⟨_, rfl⟩
  have x0 : w0.cell? ⟨w.heap.size, 0, none⟩ = some (.int .i64 (curN l : Nat)) := by rw [← hw0, World.cell?_alloc_at _ _ _ _ rfl]; rfl
  have x1 : w0.cell? ⟨w.heap.size, 1, none⟩ = some (.int .i64 (curB l : Nat)) := by rw [← hw0, World.cell?_alloc_at _ _ _ _ rfl]; rfl
  have z0 : w0.heap.size = w.heap.size + 1 := by rw [← hw0]; simp
  rw [hw0] at hb0
  have HCU : Hid (∀ W, Below w0.heap.size w0 W → Calls Tryz.prog 48 #[.pointer (some ⟨q, 0, none⟩)] W fun e w' => e = .returned (.agg #[.int .i64 (curN l : Nat), .int .i64 (curB l : Nat)]) ∧ Below w0.heap.size w0 w') := Lib.hid fun W hW => by
    have hW' := hb0.trans (hW.mono hb0.size)
    refine (current14 (h.below Y.dev hW') ha).mono ?_
    rintro e w' ⟨he, hb⟩
    exact ⟨he, hW.trans (hb.mono hW.size)⟩
  have HCE : Hid (∀ W, Below w0.heap.size w0 W → Below w.heap.size w W ∧ W.cell? ⟨q, 3, none⟩ = some (.slice A l.segs.length c) ∧ W.cell? ⟨q, 4, none⟩ = some (.int .i64 ((ckAll (lastS l)).length : Nat)) ∧ W.cell? ⟨q, 5, none⟩ = some (.int .i64 (nextG l : Nat)) ∧ W.frozen? ⟨q, 4, none⟩ = false ∧ W.frozen? ⟨q, 5, none⟩ = false ∧ W.cell? ⟨w.heap.size, 0, none⟩ = some (.int .i64 (curN l : Nat)) ∧ W.cell? ⟨w.heap.size, 1, none⟩ = some (.int .i64 (curB l : Nat))) := Lib.hid fun W hW => by
    have hW' := hb0.trans (hW.mono hb0.size)
    have h2 := h.below Y.dev hW'
    obtain ⟨_, _, _, c3, c4, c5, _⟩ := h2.cell
    exact ⟨hW', c3, c4, c5, Joins.unfrozen_of_block h2.box 4, Joins.unfrozen_of_block h2.box 5, (hW.cell (p := ⟨w.heap.size, 0, none⟩) (by show w.heap.size < _; omega)).trans x0, (hW.cell (p := ⟨w.heap.size, 1, none⟩) (by show w.heap.size < _; omega)).trans x1⟩
  have hq := h.lt q h.gq.1
  rw [hsz]
  clear h ha h0 e5 e6 hsz hp x0 x1 hm
  generalize curN l = CN at *
  generalize curB l = CB at *
  generalize hLL : (ckAll (lastS l)).length = L at *
  generalize hNN : nextG l = N at *
  generalize hSS : l.segs.length = m at *
  clear hLL hNN hSS
  have i1 : ((m : Int) == 0) = false := by simp; omega
  have w1 : IntKind.i64.wrap ((L : Int) + (sz : Int)) = ((L + sz : Nat) : Int) := by rw [IntKind.wrap_i64]; omega
  have w2 : IntKind.i64.wrap ((N : Int) + 1) = ((N + 1 : Nat) : Int) := by rw [IntKind.wrap_i64]; omega
  go_enter Tryz.func51, Tryz.ntmps51
  go_wp2
  have bd : Below w0.heap.size w0 w0.drew := below_drew (Below.refl _ _)
  obtain ⟨_, y3, y4, y5, _, _, yx0, yx1⟩ := HCE.out _ bd
  go_region_held3 (fun w9 => w9.cell? ⟨q, 3, none⟩ = some (.slice A m c) ∧ w9.cell? ⟨w.heap.size, 0, none⟩ = some (.int .i64 (CN : Nat)) ∧ w9.cell? ⟨w.heap.size, 1, none⟩ = some (.int .i64 (CB : Nat))) (exact ⟨by assumption, by assumption, by assumption⟩) (first
    | (go_at_call 48; refine (HCU.out _ bd).mono ?_; rintro e w3 ⟨rfl, b3⟩; obtain ⟨bw3, u3, u4, u5, f4, f5, ux0, ux1⟩ := HCE.out _ b3)
    | fail)
  have HQ := Lib.hid (HEND.out _ bw3)
  clear y3 y4 y5 yx0 yx1 ux0 ux1 u3
  go_wp2
  go_end0
  exact ⟨rfl, HQ.out⟩
theorem LgK.grown (Y : DevGl D) (h : LgK D w G g q d l Gd Gg sv gv gs) {l' : Lg} {n m : Nat} (e1 : l'.n = l.n) (e2 : l'.first = l.first) (e3 : l'.safe = l.safe) {x : Pt} (e4 : segL l'.n l'.first l'.segs = segL l.n l.first l.segs ++ [x]) (e5 : (ckAll (lastS l')).length = n) (e6 : nextG l' = m) (gis : gs = [])
    {v' : Value} {w' : World} (ho : PtOwn 67 w' 0 v' (segL l.n l.first l.segs ++ [x])) (hg : w.grownBy w' sv.ownBlock) (hv : ∀ b, v'.ownBlock = some b → sv.ownBlock = some b ∨ w.heap.size ≤ b) (u : Value) :
    LStq D w G g q d l' Gd Gg gv gs ((((w'.setCell ⟨q, 3, none⟩ v').setCell ⟨q, 4, none⟩ u).setCell ⟨q, 4, none⟩ (.int .i64 (n : Nat))).setCell ⟨q, 5, none⟩ (.int .i64 (m : Nat))) := by
  have hq := h.lt q h.gq.1
  have hqv : ∀ b, v'.ownBlock = some b → b ≠ q := fun b hb e => (hv b hb).elim (fun e2 => (h.sblk b e2).2.2 e) (fun e2 => by omega)
  have f0 : Frm (fun b => b = q ∨ sv.ownBlock = some b) w w' := ⟨hg.os, hg.tape, hg.output, hg.size, fun k hk hn => hg.block k hk (fun e => hn (.inr e.symm))⟩
  have hset : ∀ (W : World) i v, Frm (fun b => b = q ∨ sv.ownBlock = some b) w W → Frm (fun b => b = q ∨ sv.ownBlock = some b) w (W.setCell ⟨q, i, none⟩ v) := fun W i v hf => hf.trans (Frm.set (F := fun b => b = q ∨ sv.ownBlock = some b) W q i v (.inl rfl)) (fun i hi => .inl hi)
  have f4 := hset _ 5 (.int .i64 (m : Nat)) (hset _ 4 (.int .i64 (n : Nat)) (hset _ 4 u (hset _ 3 v' f0)))
  have b0 : w'.heap[q]? = _ := (hg.block q hq (fun e => (h.sblk q e.symm).2.2 rfl)).trans h.box
  have b1 := Joins.block_setCell (i := 3) b0 v'
  have b2 := Joins.block_setCell (i := 4) b1 u
  have b3 := Joins.block_setCell (i := 4) b2 (.int .i64 (n : Nat))
  have b4 := Joins.block_setCell (i := 5) b3 (.int .i64 (m : Nat))
  have hown : ∀ (W : World) i v, PtOwn 67 W 0 v' (segL l.n l.first l.segs ++ [x]) → PtOwn 67 (W.setCell ⟨q, i, none⟩ v) 0 v' (segL l.n l.first l.segs ++ [x]) := fun W i v ho => ho.frm (Frm.set (F := fun b => b = q) W q i v rfl) (fun b hb e => hqv b hb e)
  have o4 := hown _ 5 (.int .i64 (m : Nat)) (hown _ 4 (.int .i64 (n : Nat)) (hown _ 4 u (hown _ 3 v' ho)))
  refine ⟨_, v', h.rebox Y f4 ?_ (by rw [e4]; exact o4) hv (by rw [gis]; rfl), h.frmG f4, fun b hb => ?_⟩
  · rw [e1, e2, e3, e5, e6]
    exact b4
  · rcases hb with hb | hb
    · exact .inl hb
    · exact (hv b hb).imp (fun e => (h.sblk b e).1) id
theorem LgK.grown1 (Y : DevGl D) (h : LgK D w G g q d l Gd Gg sv gv gs) {l' : Lg} {n m : Nat} (e1 : l'.n = l.n) (e2 : l'.first = l.first) (e3 : l'.safe = l.safe) {x : Pt} (e4 : segL l'.n l'.first l'.segs = segL l.n l.first l.segs ++ [x]) (e5 : (ckAll (lastS l')).length = n) (e6 : nextG l' = m) (gis : gs = [])
    {v' : Value} {w' : World} (ho : PtOwn 67 w' 0 v' (segL l.n l.first l.segs ++ [x])) (hg : w.grownBy w' sv.ownBlock) (hv : ∀ b, v'.ownBlock = some b → sv.ownBlock = some b ∨ w.heap.size ≤ b) :
    LStq D w G g q d l' Gd Gg gv gs (((w'.setCell ⟨q, 3, none⟩ v').setCell ⟨q, 4, none⟩ (.int .i64 (n : Nat))).setCell ⟨q, 5, none⟩ (.int .i64 (m : Nat))) := by
  have hq := h.lt q h.gq.1
  have hqv : ∀ b, v'.ownBlock = some b → b ≠ q := fun b hb e => (hv b hb).elim (fun e2 => (h.sblk b e2).2.2 e) (fun e2 => by omega)
  have f0 : Frm (fun b => b = q ∨ sv.ownBlock = some b) w w' := ⟨hg.os, hg.tape, hg.output, hg.size, fun k hk hn => hg.block k hk (fun e => hn (.inr e.symm))⟩
  have hset : ∀ (W : World) i v, Frm (fun b => b = q ∨ sv.ownBlock = some b) w W → Frm (fun b => b = q ∨ sv.ownBlock = some b) w (W.setCell ⟨q, i, none⟩ v) := fun W i v hf => hf.trans (Frm.set (F := fun b => b = q ∨ sv.ownBlock = some b) W q i v (.inl rfl)) (fun i hi => .inl hi)
  have f4 := hset _ 5 (.int .i64 (m : Nat)) (hset _ 4 (.int .i64 (n : Nat)) (hset _ 3 v' f0))
  have b0 : w'.heap[q]? = _ := (hg.block q hq (fun e => (h.sblk q e.symm).2.2 rfl)).trans h.box
  have b1 := Joins.block_setCell (i := 3) b0 v'
  have b3 := Joins.block_setCell (i := 4) b1 (.int .i64 (n : Nat))
  have b4 := Joins.block_setCell (i := 5) b3 (.int .i64 (m : Nat))
  have hown : ∀ (W : World) i v, PtOwn 67 W 0 v' (segL l.n l.first l.segs ++ [x]) → PtOwn 67 (W.setCell ⟨q, i, none⟩ v) 0 v' (segL l.n l.first l.segs ++ [x]) := fun W i v ho => ho.frm (Frm.set (F := fun b => b = q) W q i v rfl) (fun b hb e => hqv b hb e)
  have o4 := hown _ 5 (.int .i64 (m : Nat)) (hown _ 4 (.int .i64 (n : Nat)) (hown _ 3 v' ho))
  refine ⟨_, v', h.rebox Y f4 ?_ (by rw [e4]; exact o4) hv (by rw [gis]; rfl), h.frmG f4, fun b hb => ?_⟩
  · rw [e1, e2, e3, e5, e6]
    exact b4
  · rcases hb with hb | hb
    · exact .inl hb
    · exact (hv b hb).imp (fun e => (h.sblk b e).1) id
end
end Go.Proofs.YtbdhhmhlcdganaaGreatDoor
namespace Go.Proofs.YtbdhhmhlcdganaaGreatDoor
open Go.RowKit
set_option linter.unusedVariables false
set_option maxRecDepth 100000

section
variable {D : DevP} {w w' : World} {G : Nat → Prop} {g q : Nat} {d : Dv} {l : Lg} {Gd Gg : Nat → Prop} {sv gv : Value} {gs : List (List Int)}
set_option maxHeartbeats 2000000 in
theorem enterNil (Y : DevOkG D) (h : LgK D w G g q d l Gd Gg sv gv gs) (ha : SgBd l) (hgs : gs = []) (h0 : l.segs = []) (p : List Int) (hp : p.length ≤ 1024) (n2 b2 : Nat) (hn2 : n2 = l.n + l.segs.length) (hb2 : b2 = nextG l) :
    Calls Tryz.prog 51 #[.pointer (some ⟨q, 0, none⟩), .agg #[.int .i64 (n2 : Nat), .int .i64 (b2 : Nat)], .int .i64 ((ckL p).length : Nat)] w fun e w' => e = .returned (.tuple #[]) ∧ LStq D w G g q d { l with segs := l.segs ++ [[p]] } Gd Gg gv gs w' := by
  obtain ⟨A, c, rfl, _, hc, hm⟩ := h.slice ha
  obtain ⟨sz, hsz⟩ : ∃ sz, (ckL p).length = sz := ⟨_, rfl⟩
  have hsz2 : sz ≤ 1030 := by rw [← hsz, ckL_len]; omega
  have hnx := ha.nxt
  have hfew := ha.few
  have hsl := segL_len l.n l.first l.segs
  have e5 : (ckAll (lastS { l with segs := l.segs ++ [[p]] })).length = sz := by
    have : lastS { l with segs := l.segs ++ [[p]] } = [p] := by unfold lastS; simp
    rw [this, ← hsz]
    simp [ckAll]
  have e6 : nextG { l with segs := l.segs ++ [[p]] } = nextG l + 1 := by
    unfold nextG
    rw [cntS_append]
    simp [cntS]
    omega
  have e4 : segL l.n l.first (l.segs ++ [[p]]) = segL l.n l.first l.segs ++ [((n2 : Int), (b2 : Int))] := by rw [segL_app, hn2, hb2]; rfl
  have HAP : Hid (∀ W, Below w.heap.size w W → ∃ A' n' c' w5, (Builtin.append_ #[70, 70] 70 #[.slice A l.segs.length c, .slice (some ⟨W.heap.size, 0, none⟩) 1 1]).run Tryz.prog (W.alloc (.cells #[.int .i64 (n2 : Nat), .int .i64 (b2 : Nat)] 67)) = .ok (.slice A' n' c') w5 ∧
      w5.cell? ⟨q, 3, none⟩ = some (.slice A l.segs.length c) ∧ w5.cell? ⟨q, 4, none⟩ = some (.int .i64 ((ckAll (lastS l)).length : Nat)) ∧ w5.cell? ⟨q, 5, none⟩ = some (.int .i64 (nextG l : Nat)) ∧ w5.frozen? ⟨q, 3, none⟩ = false ∧ w5.frozen? ⟨q, 4, none⟩ = false ∧ w5.frozen? ⟨q, 5, none⟩ = false ∧
      LStq D w G g q d { l with segs := l.segs ++ [[p]] } Gd Gg gv gs ((((w5.setCell ⟨q, 3, none⟩ (.slice A' n' c')).setCell ⟨q, 4, none⟩ (.int .i64 0)).setCell ⟨q, 4, none⟩ (.int .i64 (sz : Nat))).setCell ⟨q, 5, none⟩ (.int .i64 (nextG l + 1 : Nat)))) := Lib.hid fun W hW => by
    have hW2 := hW.alloc hW.size (.cells #[.int .i64 (n2 : Nat), .int .i64 (b2 : Nat)] 67)
    have h2 := h.below Y.dev hW2
    have hbox := box_two W 67 (n2 : Int) (b2 : Int)
    have hlen : ((segL l.n l.first l.segs).length + 1) * 16 ≤ 140737488355328 := by rw [hsl]; omega
    obtain ⟨v', w5, hrun, ho, hg⟩ := run_append_pt (P := Tryz.prog) (W.alloc (.cells #[.int .i64 (n2 : Nat), .int .i64 (b2 : Nat)] 67)) 0 70 70 67 Tryz.underlying70 info_seg (.slice A l.segs.length c) (segL l.n l.first l.segs) h2.own ⟨W.heap.size, 0, none⟩ 1 (n2 : Int) (b2 : Int) hbox hlen (Nat.zero_le _)
    have hv := pt_app_block (P := Tryz.prog) (W.alloc (.cells #[.int .i64 (n2 : Nat), .int .i64 (b2 : Nat)] 67)) 0 70 70 67 Tryz.underlying70 info_seg (.slice A l.segs.length c) (segL l.n l.first l.segs) h2.own ⟨W.heap.size, 0, none⟩ 1 (n2 : Int) (b2 : Int) hbox hlen hrun
    obtain ⟨A', n', c', rfl⟩ : ∃ A' n' c', v' = .slice A' n' c' := by
      rcases ho with ⟨rfl, _⟩ | ⟨g', cap, r, rfl, _⟩
      · exact ⟨_, _, _, rfl⟩
      · exact ⟨_, _, _, rfl⟩
    have b0 : w5.heap[q]? = _ := (hg.block q (h2.lt q h2.gq.1) (fun e => (h2.sblk q e.symm).2.2 rfl)).trans h2.box
    obtain ⟨G', sv', r1, r2, r3⟩ := h2.grown Y.dev (l' := { l with segs := l.segs ++ [[p]] }) rfl rfl rfl e4 e5 e6 hgs ho hg hv (.int .i64 0)
    refine ⟨A', n', c', w5, hrun, ?_, ?_, ?_, Joins.unfrozen_of_block b0 3, Joins.unfrozen_of_block b0 4, Joins.unfrozen_of_block b0 5, G', sv', r1, (Frm.of_below hW2).trans r2 (fun i hi => .inl hi), fun b hb => (r3 b hb).imp id (fun e => Nat.le_trans hW2.size e)⟩
    · rw [cell_of_row w5 q 3 _ _ _ b0]; rfl
    · rw [cell_of_row w5 q 4 _ _ _ b0]; rfl
    · rw [cell_of_row w5 q 5 _ _ _ b0]; rfl
  have hb0 := bel_alloc w (.cells #[.int .i64 (n2 : Nat), .int .i64 (b2 : Nat)] 67)
  obtain ⟨w0, hw0⟩ : ∃ w0, w.alloc (.cells #[.int .i64 (n2 : Nat), .int .i64 (b2 : Nat)] 67) = w0 := ⟨_, rfl⟩
  have x0 : w0.cell? ⟨w.heap.size, 0, none⟩ = some (.int .i64 (n2 : Nat)) := by rw [← hw0, World.cell?_alloc_at _ _ _ _ rfl]; rfl
  have x1 : w0.cell? ⟨w.heap.size, 1, none⟩ = some (.int .i64 (b2 : Nat)) := by rw [← hw0, World.cell?_alloc_at _ _ _ _ rfl]; rfl
  have z0 : w0.heap.size = w.heap.size + 1 := by rw [← hw0]; simp
  rw [hw0] at hb0
  have HCE : Hid (∀ W, Below w0.heap.size w0 W → Below w.heap.size w W ∧ W.cell? ⟨q, 3, none⟩ = some (.slice A l.segs.length c) ∧ W.cell? ⟨w.heap.size, 0, none⟩ = some (.int .i64 (n2 : Nat)) ∧ W.cell? ⟨w.heap.size, 1, none⟩ = some (.int .i64 (b2 : Nat))) := Lib.hid fun W hW => by
    have hW' := hb0.trans (hW.mono hb0.size)
    obtain ⟨_, _, _, c3, _⟩ := (h.below Y.dev hW').cell
    exact ⟨hW', c3, (hW.cell (p := ⟨w.heap.size, 0, none⟩) (by show w.heap.size < _; omega)).trans x0, (hW.cell (p := ⟨w.heap.size, 1, none⟩) (by show w.heap.size < _; omega)).trans x1⟩
  have hq := h.lt q h.gq.1
  have bd : Below w0.heap.size w0 w0.drew := below_drew (Below.refl _ _)
  obtain ⟨_, y3, yx0, yx1⟩ := HCE.out _ bd
  rw [hsz]
  clear hn2 hb2
  generalize nextG l = N at *
  have w1 : IntKind.i64.wrap (0 + (sz : Int)) = (sz : Int) := by rw [IntKind.wrap_i64]; omega
  have w1' : IntKind.i64.wrap (sz : Int) = (sz : Int) := by rw [IntKind.wrap_i64]; omega
  have w2 : IntKind.i64.wrap ((N : Int) + 1) = ((N + 1 : Nat) : Int) := by rw [IntKind.wrap_i64]; omega
  clear h ha hp hsl e4 e5 e6 hsz x0 x1 hm
  obtain ⟨m, hm0⟩ : ∃ m, l.segs.length = m := ⟨_, rfl⟩
  rw [hm0] at HAP y3 hc hfew
  have m0 : m = 0 := by rw [← hm0, h0]; rfl
  have i1 : ((m : Int) == 0) = true := by rw [m0]; rfl
  clear hm0 h0 HCE m0
  have hx0 := Lib.hid yx0
  have hx1 := Lib.hid yx1
  have hy3 := Lib.hid y3
  go_enter Tryz.func51, Tryz.ntmps51
  go_wp2
  refine wp_region_held_drew (S := (fun w9 => w9.cell? ⟨q, 3, none⟩ = some (.slice A m c) ∧ w9.cell? ⟨w.heap.size, 0, none⟩ = some (.int .i64 (n2 : Nat)) ∧ w9.cell? ⟨w.heap.size, 1, none⟩ = some (.int .i64 (b2 : Nat)))) (by kernel_rfl) ⟨y3, yx0, yx1⟩ (fun hHeld => ?_)
  refine wpAnyH_take (i := 0) (oi := { dst := some 6, op := Op.move (Operand.tmp 0), type := 30, pos := "segs.go:197", after := #[], guard := none }) (v := ?v1) rfl (by kernel_rfl) (by kernel_rfl) (by kernel_rfl) (fun _ _ _ h => h) (Or.inl ⟨by rfl, ?hy1⟩) (by assumption) ?rest1
  case hy1 => (intro w' hSw; (try dsimp only at hSw); go_simp; try with_reducible rfl)
  simp only [Act.put, List.setIfInBounds_toArray, List.set_cons_zero, List.set_cons_succ]
  refine wpAnyH_take (i := 1) (oi := { dst := some 7, op := Op.nilCheck (Operand.tmp 6), type := 0, pos := "segs.go:197", after := #[{ on := 0, ground := Ground.data }], guard := none }) (v := ?v2) rfl (by kernel_rfl) (by kernel_rfl) (by kernel_rfl) (fun _ _ _ h => h) (Or.inl ⟨by rfl, ?hy2⟩) (by assumption) ?rest2
  case hy2 => (intro w' hSw; (try dsimp only at hSw); go_simp; try with_reducible rfl)
  simp only [Act.put, List.setIfInBounds_toArray, List.set_cons_zero, List.set_cons_succ]
  refine wpAnyH_take (i := 2) (oi := { dst := some 8, op := Op.fieldAddr 72 (Operand.tmp 7) 2, type := 0, pos := "segs.go:197", after := #[{ on := 1, ground := Ground.data }], guard := none }) (v := ?v3) rfl (by kernel_rfl) (by kernel_rfl) (by kernel_rfl) (fun _ _ _ h => h) (Or.inl ⟨by rfl, ?hy3⟩) (by assumption) ?rest3
  case hy3 => (intro w' hSw; (try dsimp only at hSw); go_simp; try with_reducible rfl)
  simp only [Act.put, List.setIfInBounds_toArray, List.set_cons_zero, List.set_cons_succ]
  refine wpAnyH_take (i := 3) (oi := { dst := some 9, op := Op.load 70 (Operand.tmp 8), type := 70, pos := "segs.go:197", after := #[{ on := 2, ground := Ground.data }], guard := none }) (v := ?v4) rfl (by kernel_rfl) (by kernel_rfl) (by kernel_rfl) (fun _ _ _ h => h) (Or.inl ⟨by rfl, ?hy4⟩) (by assumption) ?rest4
  case hy4 => (intro w' hSw; (try dsimp only at hSw); go_simp; try with_reducible rfl)
  simp only [Act.put, List.setIfInBounds_toArray, List.set_cons_zero, List.set_cons_succ]
  refine wpAnyH_take (i := 4) (oi := { dst := some 10, op := Op.call { callee := Callee.builtin Builtin.len, args := #[Operand.tmp 9], argTypes := #[70] }, type := 3, pos := "segs.go:197", after := #[{ on := 3, ground := Ground.data }], guard := none }) (v := ?v5) rfl (by kernel_rfl) (by kernel_rfl) (by kernel_rfl) (fun _ _ _ h => h) (Or.inl ⟨by rfl, ?hy5⟩) (by assumption) ?rest5
  case hy5 => (intro w' hSw; (try dsimp only at hSw); go_simp; try with_reducible rfl)
  simp only [Act.put, List.setIfInBounds_toArray, List.set_cons_zero, List.set_cons_succ]
  refine wpAnyH_take (i := 5) (oi := { dst := some 11, op := Op.binOp BinOp.eql 3 (Operand.tmp 10) (Operand.const (Value.int IntKind.i64 0)) 3, type := 4, pos := "segs.go:197", after := #[{ on := 4, ground := Ground.data }], guard := none }) (v := ?v6) rfl (by kernel_rfl) (by kernel_rfl) (by kernel_rfl) (fun _ _ _ h => h) (Or.inl ⟨by rfl, ?hy6⟩) (by assumption) ?rest6
  case hy6 => (intro w' hSw; (try dsimp only at hSw); go_simp; try with_reducible rfl)
  simp only [Act.put, List.setIfInBounds_toArray, List.set_cons_zero, List.set_cons_succ]
  refine wpAnyH_take (i := 6) (oi := { dst := some 12, op := Op.move (Operand.tmp 11), type := 4, pos := "segs.go:197", after := #[{ on := 5, ground := Ground.data }], guard := none }) (v := ?v7) rfl (by kernel_rfl) (by kernel_rfl) (by kernel_rfl) (fun _ _ _ h => h) (Or.inl ⟨by rfl, ?hy7⟩) (by assumption) ?rest7
  case hy7 => (intro w' hSw; (try dsimp only at hSw); go_simp; try with_reducible rfl)
  simp only [Act.put, List.setIfInBounds_toArray, List.set_cons_zero, List.set_cons_succ]
  refine wpAnyH_take (i := 7) (oi := { dst := some 13, op := Op.load 67 (Operand.tmp 4), type := 67, pos := "segs.go:197", after := #[{ on := 6, ground := Ground.guard }], guard := some (6, false) }) (v := undef) rfl (by kernel_rfl) (by kernel_rfl) (by kernel_rfl) (fun _ _ _ h => h) (Or.inr ⟨by rfl, rfl⟩) (by assumption) ?_
  simp only [Act.put, List.setIfInBounds_toArray, List.set_cons_zero, List.set_cons_succ]
  refine wpAnyH_take (i := 8) (oi := { dst := some 14, op := Op.move (Operand.tmp 0), type := 30, pos := "segs.go:197", after := #[{ on := 6, ground := Ground.guard }], guard := some (6, false) }) (v := undef) rfl (by kernel_rfl) (by kernel_rfl) (by kernel_rfl) (fun _ _ _ h => h) (Or.inr ⟨by rfl, rfl⟩) (by assumption) ?_
  simp only [Act.put, List.setIfInBounds_toArray, List.set_cons_zero, List.set_cons_succ]
  refine wpAnyH_take (i := 9) (oi := { dst := some 15, op := Op.call { callee := Callee.value (Operand.func 48), args := #[Operand.tmp 14], argTypes := #[30] }, type := 67, pos := "segs.go:197", after := #[{ on := 8, ground := Ground.data }, { on := 6, ground := Ground.chain }, { on := 6, ground := Ground.guard }], guard := some (6, false) }) (v := undef) rfl (by kernel_rfl) (by kernel_rfl) (by kernel_rfl) (fun _ _ _ h => h) (Or.inr ⟨by rfl, rfl⟩) (by assumption) ?_
  simp only [Act.put, List.setIfInBounds_toArray, List.set_cons_zero, List.set_cons_succ]
  refine wpAnyH_take (i := 10) (oi := { dst := some 16, op := Op.binOp BinOp.neq 67 (Operand.tmp 13) (Operand.tmp 15) 67, type := 4, pos := "segs.go:197", after := #[{ on := 7, ground := Ground.data }, { on := 9, ground := Ground.data }, { on := 6, ground := Ground.guard }], guard := some (6, false) }) (v := undef) rfl (by kernel_rfl) (by kernel_rfl) (by kernel_rfl) (fun _ _ _ h => h) (Or.inr ⟨by rfl, rfl⟩) (by assumption) ?_
  simp only [Act.put, List.setIfInBounds_toArray, List.set_cons_zero, List.set_cons_succ]
  refine wpAnyH_take (i := 11) (oi := { dst := some 17, op := Op.pick (Operand.tmp 12) (Operand.const (Value.bool true)) (Operand.tmp 16), type := 4, pos := "segs.go:197", after := #[{ on := 6, ground := Ground.data }, { on := 10, ground := Ground.data }], guard := none }) (v := ?v12) rfl (by kernel_rfl) (by kernel_rfl) (by kernel_rfl) (fun _ _ _ h => h) (Or.inl ⟨by rfl, ?hy12⟩) (by assumption) ?rest12
  case hy12 => (intro w' hSw; (try dsimp only at hSw); go_simp; try with_reducible rfl)
  simp only [Act.put, List.setIfInBounds_toArray, List.set_cons_zero, List.set_cons_succ]
  refine wpAnyH_done (by kernel_rfl) ?_ _
  have bW : Below w.heap.size w w0.drew := hb0.trans (bd.mono hb0.size)
  clear bd y3 hHeld yx0 yx1
  have xx0 : w0.drew.cell? ⟨w.heap.size, 0, none⟩ = some (.int .i64 (n2 : Nat)) := hx0.out
  have xx1 : w0.drew.cell? ⟨w.heap.size, 1, none⟩ = some (.int .i64 (b2 : Nat)) := hx1.out
  have xx3 : w0.drew.cell? ⟨q, 3, none⟩ = some (.slice A m c) := hy3.out
  clear hx0 hx1 hy3
  generalize w0.drew = W at *
  have HBW := Lib.hid bW
  have xa3 : (W.alloc (.cells #[.int .i64 (n2 : Nat), .int .i64 (b2 : Nat)] 67)).cell? ⟨q, 3, none⟩ = some (.slice A m c) := (World.cell?_alloc_lt _ _ _ (by show q < W.heap.size; have := bW.size; omega)).trans (by assumption)
  clear bW
  go_wp2_with fail
  go_region_law (first
    | (obtain ⟨A', n', c', w5, hrun, k3, k4, k5, z3, z4, z5, hfin⟩ := HAP.out (W) (HBW.out); refine step_append_ty ((W).alloc (.cells #[.int .i64 (n2 : Nat), .int .i64 (b2 : Nat)] 67)) rfl (.tmp 22) (.tmp 24) 70 rfl (.slice A m c) (.slice (some ⟨W.heap.size, 0, none⟩) 1 1) (.slice A' n' c') w5 rfl rfl hrun ?_; have HF := Lib.hid hfin; clear hfin hrun)
    | (obtain ⟨A', n', c', w5, hrun, k3, k4, k5, z3, z4, z5, hfin⟩ := HAP.out (W.drew) (below_drew HBW.out); refine step_append_ty ((W.drew).alloc (.cells #[.int .i64 (n2 : Nat), .int .i64 (b2 : Nat)] 67)) rfl (.tmp 22) (.tmp 24) 70 rfl (.slice A m c) (.slice (some ⟨W.heap.size, 0, none⟩) 1 1) (.slice A' n' c') w5 rfl rfl hrun ?_; have HF := Lib.hid hfin; clear hfin hrun)
    | (obtain ⟨A', n', c', w5, hrun, k3, k4, k5, z3, z4, z5, hfin⟩ := HAP.out (W.drew.drew) (below_drew (below_drew HBW.out)); refine step_append_ty ((W.drew.drew).alloc (.cells #[.int .i64 (n2 : Nat), .int .i64 (b2 : Nat)] 67)) rfl (.tmp 22) (.tmp 24) 70 rfl (.slice A m c) (.slice (some ⟨W.heap.size, 0, none⟩) 1 1) (.slice A' n' c') w5 rfl rfl hrun ?_; have HF := Lib.hid hfin; clear hfin hrun)
    | fail)
  all_goals
    go_wp2
    go_end0
    exact ⟨rfl, HF.out⟩
set_option maxHeartbeats 2000000 in
theorem enterNew (Y : DevOkG D) (h : LgK D w G g q d l Gd Gg sv gv gs) (ha : SgBd l) (hgs : gs = []) (h0 : l.segs ≠ []) (p : List Int) (hp : p.length ≤ 1024) (n2 b2 : Nat) (hn2 : n2 = l.n + l.segs.length) (hb2 : b2 = nextG l) :
    Calls Tryz.prog 51 #[.pointer (some ⟨q, 0, none⟩), .agg #[.int .i64 (n2 : Nat), .int .i64 (b2 : Nat)], .int .i64 ((ckL p).length : Nat)] w fun e w' => e = .returned (.tuple #[]) ∧ LStq D w G g q d { l with segs := l.segs ++ [[p]] } Gd Gg gv gs w' := by
  obtain ⟨A, c, rfl, _, hc, hm⟩ := h.slice ha
  obtain ⟨sz, hsz⟩ : ∃ sz, (ckL p).length = sz := ⟨_, rfl⟩
  have hsz2 : sz ≤ 1030 := by rw [← hsz, ckL_len]; omega
  have hnx := ha.nxt
  have hfew := ha.few
  have hsl := segL_len l.n l.first l.segs
  have e5 : (ckAll (lastS { l with segs := l.segs ++ [[p]] })).length = sz := by
    have : lastS { l with segs := l.segs ++ [[p]] } = [p] := by unfold lastS; simp
    rw [this, ← hsz]
    simp [ckAll]
  have e6 : nextG { l with segs := l.segs ++ [[p]] } = nextG l + 1 := by
    unfold nextG
    rw [cntS_append]
    simp [cntS]
    omega
  have e4 : segL l.n l.first (l.segs ++ [[p]]) = segL l.n l.first l.segs ++ [((n2 : Int), (b2 : Int))] := by rw [segL_app, hn2, hb2]; rfl
  have HAP : Hid (∀ W, Below w.heap.size w W → ∃ A' n' c' w5, (Builtin.append_ #[70, 70] 70 #[.slice A l.segs.length c, .slice (some ⟨W.heap.size, 0, none⟩) 1 1]).run Tryz.prog (W.alloc (.cells #[.int .i64 (n2 : Nat), .int .i64 (b2 : Nat)] 67)) = .ok (.slice A' n' c') w5 ∧
      w5.cell? ⟨q, 3, none⟩ = some (.slice A l.segs.length c) ∧ w5.cell? ⟨q, 4, none⟩ = some (.int .i64 ((ckAll (lastS l)).length : Nat)) ∧ w5.cell? ⟨q, 5, none⟩ = some (.int .i64 (nextG l : Nat)) ∧ w5.frozen? ⟨q, 3, none⟩ = false ∧ w5.frozen? ⟨q, 4, none⟩ = false ∧ w5.frozen? ⟨q, 5, none⟩ = false ∧
      LStq D w G g q d { l with segs := l.segs ++ [[p]] } Gd Gg gv gs ((((w5.setCell ⟨q, 3, none⟩ (.slice A' n' c')).setCell ⟨q, 4, none⟩ (.int .i64 0)).setCell ⟨q, 4, none⟩ (.int .i64 (sz : Nat))).setCell ⟨q, 5, none⟩ (.int .i64 (nextG l + 1 : Nat)))) := Lib.hid fun W hW => by
    have hW2 := hW.alloc hW.size (.cells #[.int .i64 (n2 : Nat), .int .i64 (b2 : Nat)] 67)
    have h2 := h.below Y.dev hW2
    have hbox := box_two W 67 (n2 : Int) (b2 : Int)
    have hlen : ((segL l.n l.first l.segs).length + 1) * 16 ≤ 140737488355328 := by rw [hsl]; omega
    obtain ⟨v', w5, hrun, ho, hg⟩ := run_append_pt (P := Tryz.prog) (W.alloc (.cells #[.int .i64 (n2 : Nat), .int .i64 (b2 : Nat)] 67)) 0 70 70 67 Tryz.underlying70 info_seg (.slice A l.segs.length c) (segL l.n l.first l.segs) h2.own ⟨W.heap.size, 0, none⟩ 1 (n2 : Int) (b2 : Int) hbox hlen (Nat.zero_le _)
    have hv := pt_app_block (P := Tryz.prog) (W.alloc (.cells #[.int .i64 (n2 : Nat), .int .i64 (b2 : Nat)] 67)) 0 70 70 67 Tryz.underlying70 info_seg (.slice A l.segs.length c) (segL l.n l.first l.segs) h2.own ⟨W.heap.size, 0, none⟩ 1 (n2 : Int) (b2 : Int) hbox hlen hrun
    obtain ⟨A', n', c', rfl⟩ : ∃ A' n' c', v' = .slice A' n' c' := by
      rcases ho with ⟨rfl, _⟩ | ⟨g', cap, r, rfl, _⟩
      · exact ⟨_, _, _, rfl⟩
      · exact ⟨_, _, _, rfl⟩
    have b0 : w5.heap[q]? = _ := (hg.block q (h2.lt q h2.gq.1) (fun e => (h2.sblk q e.symm).2.2 rfl)).trans h2.box
    obtain ⟨G', sv', r1, r2, r3⟩ := h2.grown Y.dev (l' := { l with segs := l.segs ++ [[p]] }) rfl rfl rfl e4 e5 e6 hgs ho hg hv (.int .i64 0)
    refine ⟨A', n', c', w5, hrun, ?_, ?_, ?_, Joins.unfrozen_of_block b0 3, Joins.unfrozen_of_block b0 4, Joins.unfrozen_of_block b0 5, G', sv', r1, (Frm.of_below hW2).trans r2 (fun i hi => .inl hi), fun b hb => (r3 b hb).imp id (fun e => Nat.le_trans hW2.size e)⟩
    · rw [cell_of_row w5 q 3 _ _ _ b0]; rfl
    · rw [cell_of_row w5 q 4 _ _ _ b0]; rfl
    · rw [cell_of_row w5 q 5 _ _ _ b0]; rfl
  have hp0 : 0 < l.segs.length := List.length_pos_iff.2 h0
  have hcn : ((n2 : Int) == (curN l : Int)) = false := by rw [hn2]; unfold curN; simp; omega
  have hcn2 : ((n2 : Int) != (curN l : Int)) = true := by rw [hn2]; unfold curN; simp; omega
  have hb0 := bel_alloc w (.cells #[.int .i64 (n2 : Nat), .int .i64 (b2 : Nat)] 67)
  obtain ⟨w0, hw0⟩ : ∃ w0, w.alloc (.cells #[.int .i64 (n2 : Nat), .int .i64 (b2 : Nat)] 67) = w0 := ⟨_, rfl⟩
  have x0 : w0.cell? ⟨w.heap.size, 0, none⟩ = some (.int .i64 (n2 : Nat)) := by rw [← hw0, World.cell?_alloc_at _ _ _ _ rfl]; rfl
  have x1 : w0.cell? ⟨w.heap.size, 1, none⟩ = some (.int .i64 (b2 : Nat)) := by rw [← hw0, World.cell?_alloc_at _ _ _ _ rfl]; rfl
  have z0 : w0.heap.size = w.heap.size + 1 := by rw [← hw0]; simp
  rw [hw0] at hb0
  have HCE : Hid (∀ W, Below w0.heap.size w0 W → Below w.heap.size w W ∧ W.cell? ⟨q, 3, none⟩ = some (.slice A l.segs.length c) ∧ W.cell? ⟨w.heap.size, 0, none⟩ = some (.int .i64 (n2 : Nat)) ∧ W.cell? ⟨w.heap.size, 1, none⟩ = some (.int .i64 (b2 : Nat))) := Lib.hid fun W hW => by
    have hW' := hb0.trans (hW.mono hb0.size)
    obtain ⟨_, _, _, c3, _⟩ := (h.below Y.dev hW').cell
    exact ⟨hW', c3, (hW.cell (p := ⟨w.heap.size, 0, none⟩) (by show w.heap.size < _; omega)).trans x0, (hW.cell (p := ⟨w.heap.size, 1, none⟩) (by show w.heap.size < _; omega)).trans x1⟩
  have hq := h.lt q h.gq.1
  have bd : Below w0.heap.size w0 w0.drew := below_drew (Below.refl _ _)
  obtain ⟨_, y3, yx0, yx1⟩ := HCE.out _ bd
  rw [hsz]
  clear hn2 hb2
  generalize nextG l = N at *
  have w1 : IntKind.i64.wrap (0 + (sz : Int)) = (sz : Int) := by rw [IntKind.wrap_i64]; omega
  have w1' : IntKind.i64.wrap (sz : Int) = (sz : Int) := by rw [IntKind.wrap_i64]; omega
  have w2 : IntKind.i64.wrap ((N : Int) + 1) = ((N + 1 : Nat) : Int) := by rw [IntKind.wrap_i64]; omega
  have HCU : Hid (∀ W, Below w0.heap.size w0 W → Calls Tryz.prog 48 #[.pointer (some ⟨q, 0, none⟩)] W fun e w' => e = .returned (.agg #[.int .i64 (curN l : Nat), .int .i64 (curB l : Nat)]) ∧ Below w0.heap.size w0 w') := Lib.hid fun W hW => by
    have hW' := hb0.trans (hW.mono hb0.size)
    refine (current14 (h.below Y.dev hW') ha).mono ?_
    rintro e w' ⟨he, hb⟩
    exact ⟨he, hW.trans (hb.mono hW.size)⟩
  clear h ha hp hsl e4 e5 e6 hsz x0 x1 hm h0
  generalize curN l = CN at *
  generalize curB l = CB at *
  generalize hmm : l.segs.length = m at *
  clear hmm
  have i1 : ((m : Int) == 0) = false := by simp; omega
  go_enter Tryz.func51, Tryz.ntmps51
  go_wp2
  go_region_held3 (fun w9 => w9.cell? ⟨q, 3, none⟩ = some (.slice A m c) ∧ w9.cell? ⟨w.heap.size, 0, none⟩ = some (.int .i64 (n2 : Nat)) ∧ w9.cell? ⟨w.heap.size, 1, none⟩ = some (.int .i64 (b2 : Nat))) (exact ⟨by assumption, by assumption, by assumption⟩) (first
    | (go_at_call 48; refine (HCU.out _ bd).mono ?_; rintro e w3 ⟨rfl, b3⟩; obtain ⟨bw3, u3, ux0, ux1⟩ := HCE.out _ b3)
    | fail)
  have bW := bw3
  clear bd y3 yx0 yx1 HCE b3
  generalize w3 = W at *
  have HBW := Lib.hid bW
  have xa3 : (W.alloc (.cells #[.int .i64 (n2 : Nat), .int .i64 (b2 : Nat)] 67)).cell? ⟨q, 3, none⟩ = some (.slice A m c) := (World.cell?_alloc_lt _ _ _ (by show q < W.heap.size; have := bW.size; omega)).trans (by assumption)
  clear bW
  go_wp2_with fail
  go_region_law (first
    | (obtain ⟨A', n', c', w5, hrun, k3, k4, k5, z3, z4, z5, hfin⟩ := HAP.out (W) (HBW.out); refine step_append_ty ((W).alloc (.cells #[.int .i64 (n2 : Nat), .int .i64 (b2 : Nat)] 67)) rfl (.tmp 22) (.tmp 24) 70 rfl (.slice A m c) (.slice (some ⟨W.heap.size, 0, none⟩) 1 1) (.slice A' n' c') w5 rfl rfl hrun ?_; have HF := Lib.hid hfin; clear hfin hrun)
    | (obtain ⟨A', n', c', w5, hrun, k3, k4, k5, z3, z4, z5, hfin⟩ := HAP.out (W.drew) (below_drew HBW.out); refine step_append_ty ((W.drew).alloc (.cells #[.int .i64 (n2 : Nat), .int .i64 (b2 : Nat)] 67)) rfl (.tmp 22) (.tmp 24) 70 rfl (.slice A m c) (.slice (some ⟨W.heap.size, 0, none⟩) 1 1) (.slice A' n' c') w5 rfl rfl hrun ?_; have HF := Lib.hid hfin; clear hfin hrun)
    | (obtain ⟨A', n', c', w5, hrun, k3, k4, k5, z3, z4, z5, hfin⟩ := HAP.out (W.drew.drew) (below_drew (below_drew HBW.out)); refine step_append_ty ((W.drew.drew).alloc (.cells #[.int .i64 (n2 : Nat), .int .i64 (b2 : Nat)] 67)) rfl (.tmp 22) (.tmp 24) 70 rfl (.slice A m c) (.slice (some ⟨W.heap.size, 0, none⟩) 1 1) (.slice A' n' c') w5 rfl rfl hrun ?_; have HF := Lib.hid hfin; clear hfin hrun)
    | fail)
  all_goals
    go_wp2
    go_end0
    exact ⟨rfl, HF.out⟩
end
end Go.Proofs.YtbdhhmhlcdganaaGreatDoor
