/-
  Lists of points that the call itself has made: every cell of their block is known to be a number. Appending, copying and writing over.
-/
import Derived.Test.YtggijpfmcidpaaaBdKit
namespace Go.Proofs.Ytggijpfmcidpaaa
open Go.RowKit
set_option linter.unusedVariables false

/-- The slice v is nil and l empty, or v begins a block of the call's own, whose cells are the points l, and others behind them. -/
def PtOwn (e : TypeId) (w : World) (base : Nat) (v : Value) (l : List Pt) : Prop :=
  (v = .slice none 0 0 ∧ l = []) ∨
  ∃ (g cap : Nat) (r : List Pt), v = .slice (some ⟨g, 0, none⟩) l.length cap ∧ base ≤ g ∧ w.heap[g]? = some (.cells (blk .i64 (flP (l ++ r))) e (0, 0)) ∧ l.length + r.length = cap ∧ cap ≤ maxLen

theorem PtOwn.nil (e : TypeId) (w : World) (base : Nat) : PtOwn e w base (.slice none 0 0) [] := .inl ⟨rfl, rfl⟩
theorem PtOwn.below {e : TypeId} {w w' : World} {base B : Nat} {v : Value} {l : List Pt} (h : PtOwn e w base v l) (hb : Below B w w') (hB : w.heap.size ≤ B) : PtOwn e w' base v l := by
  rcases h with h | ⟨g, cap, r, h1, h2, h3, h4⟩
  · exact .inl h
  · exact .inr ⟨g, cap, r, h1, h2, (hb.block g (by have := block_lt h3; omega)).trans h3, h4⟩
theorem PtOwn.alloc {e : TypeId} {w : World} {base : Nat} {v : Value} {l : List Pt} (h : PtOwn e w base v l) (o : Obj) : PtOwn e (w.alloc o) base v l :=
  h.below (bel_alloc w o) (Nat.le_refl _)
theorem PtOwn.drewN {e : TypeId} {w : World} {base : Nat} {v : Value} {l : List Pt} (h : PtOwn e w base v l) (n : Nat) : PtOwn e (w.drewN n) base v l := h
theorem PtOwn.mono {e : TypeId} {w : World} {base base' : Nat} {v : Value} {l : List Pt} (h : PtOwn e w base v l) (hb : base' ≤ base) : PtOwn e w base' v l := by
  rcases h with h | ⟨g, cap, r, h1, h2, h3⟩
  · exact .inl h
  · exact .inr ⟨g, cap, r, h1, by omega, h3⟩
theorem PtOwn.block {e : TypeId} {w : World} {base : Nat} {v : Value} {l : List Pt} (h : PtOwn e w base v l) : ∀ g, v.ownBlock = some g → base ≤ g ∧ g < w.heap.size := by
  intro g hg
  rcases h with ⟨rfl, _⟩ | ⟨g', cap, r, rfl, h2, h3, h4⟩
  · cases hg
  · injection hg with hg
    subst hg
    exact ⟨h2, block_lt h3⟩
theorem PtOwn.kept {e : TypeId} {w w' : World} {base : Nat} {v : Value} {l : List Pt} {row : Option Nat} (h : PtOwn e w base v l) (hg : w.grownBy w' row) (hne : v.ownBlock = none ∨ v.ownBlock ≠ row) : PtOwn e w' base v l := by
  rcases h with h | ⟨g, cap, r, rfl, h2, h3, h4⟩
  · exact .inl h
  · refine .inr ⟨g, cap, r, rfl, h2, (hg.block g (block_lt h3) fun e => ?_).trans h3, h4⟩
    rcases hne with h | h
    · cases h
    · exact h e
/-- A store into another block. -/
theorem PtOwn.set {e : TypeId} {w : World} {base g : Nat} {v : Value} {l : List Pt} (h : PtOwn e w base v l) (hg : g < base) (i : Nat) (u : Value) : PtOwn e (w.setCell ⟨g, i, none⟩ u) base v l := by
  rcases h with h | ⟨q, cap, r, rfl, h2, h3, h4⟩
  · exact .inl h
  · exact .inr ⟨q, cap, r, rfl, h2, (Below.heap_setCell w ⟨g, i, none⟩ u q (by simp; omega)).trans h3, h4⟩
theorem Below.ptown {e : TypeId} {w0 w w' : World} {base : Nat} {v : Value} {l : List Pt} (hb : Below base w0 w) (hB : base ≤ w.heap.size) (h : PtOwn e w base v l) (hg : w.grownBy w' v.ownBlock) : Below base w0 w' :=
  hb.grown hg hB fun g e => (h.block g e).1
theorem Below.ptown1 {e : TypeId} {w0 w w' : World} {base : Nat} {v : Value} {l : List Pt} {o : Obj} (hb : Below base w0 w) (hB : base ≤ w.heap.size) (h : PtOwn e w base v l) (hg : (w.alloc o).grownBy w' v.ownBlock) : Below base w0 w' :=
  Below.ptown (hb.alloc hB o) (by simp; omega) (h.alloc o) hg
theorem PtOwn.row {e : TypeId} {w : World} {base : Nat} {v : Value} {l : List Pt} (h : PtOwn e w base v l) (hw : ∀ p ∈ l, Pt.Ok p) :
    ∃ A c, v = .slice A l.length c ∧ Row .i64 w w.heap.size A (flP l) ∧ l.length ≤ c ∧ c ≤ maxLen := by
  rcases h with ⟨rfl, rfl⟩ | ⟨g, cap, r, rfl, h2, h3, h4, h5⟩
  · exact ⟨none, 0, rfl, Row.nil _ _ _ _, Nat.le_refl _, Nat.zero_le _⟩
  · exact ⟨_, cap, rfl, Row.pts_of_block h3 hw, by omega, h5⟩

section
variable {P : Program}
theorem blkP_cat (l m : List Pt) : blk .i64 (flP l) ++ blk .i64 (flP m) = blk .i64 (flP (l ++ m)) := by rw [flP_append]; simp [blk]
theorem run_append_pt (w : World) (base : Nat) (t ty e : TypeId) (ht : P.underlying t = some (.slice e)) (hi : (P.info? e).map (fun i => (i.zero, i.size, i.bytes)) = some (some (.agg #[.int .i64 0, .int .i64 0]), 2, 16))
    (v : Value) (l : List Pt) (hown : PtOwn e w base v l) (a : Addr) (c : Nat) (x y : Int) (hnews : ∀ j u, [Value.int .i64 x, .int .i64 y][j]? = some u → w.cell? (a.add j) = some u)
    (hb : (l.length + 1) * 16 ≤ 140737488355328) (hbase : base ≤ w.heap.size) :
    ∃ v' w', (Builtin.append_ #[t, t] ty #[v, .slice (some a) 1 c]).run P w = .ok v' w' ∧ PtOwn e w' base v' (l ++ [(x, y)]) ∧ w.grownBy w' v.ownBlock := by
  obtain ⟨i, hi1, hz, hsz, hby⟩ := info_parts hi
  have hl : [Value.int .i64 x, .int .i64 y].length = 1 * i.size := by rw [hsz]; rfl
  rcases hown with ⟨rfl, rfl⟩ | ⟨g, cap, r, rfl, h2, h3, h4, h5⟩
  · have hr := run_append_nil (P := P) w t ty e i _ ht hi1 hz a 1 c _ hl hnews (by omega) (by omega) (by rw [hby]; omega)
    have hge := grownCap_ge w 1 0 e
    refine ⟨_, _, hr, .inr ⟨_, _, zeroP (grownCap w 1 0 e - 1), rfl, hbase, ?_, ?_, grownCap_le_maxLen w 1 0 e (by simp [maxLen])⟩, ⟨rfl, rfl, rfl, by simp, fun k hk _ => heap_alloc_old w.drew _ hk⟩⟩
    · have := heap_alloc_new w.drew (.cells ([Value.int .i64 x, .int .i64 y].toArray ++ Builtin.zeroCells (Value.agg #[.int .i64 0, .int .i64 0]).cells (grownCap w 1 0 e - 1)) e)
      rw [zero_two] at this
      rw [zero_two]
      refine this.trans ?_
      have e1 : [Value.int .i64 x, .int .i64 y].toArray = blk .i64 (flP [(x, y)]) := rfl
      rw [e1, blkP_cat]; rfl
    · rw [zeroP_len]; simp; omega
  · by_cases hroom : l.length + 1 ≤ cap
    · have hcs : (blk .i64 (flP (l ++ r))).size = 2 * cap := by rw [blk_size, flP_len, List.length_append]; omega
      have hr := run_append_room (P := P) w t ty e i ht hi1 g l.length cap _ h3 a 1 c _ hl hnews (by simp [Value.oneCell']) hroom (by rw [hsz, hcs]; simp; omega)
      obtain ⟨p, r, rfl⟩ : ∃ p r', r = p :: r' := by
        cases r with
        | nil => simp at h4; omega
        | cons p r => exact ⟨p, r, rfl⟩
      refine ⟨_, _, hr, .inr ⟨g, cap, r, by rw [List.length_append]; rfl, h2, ?_, by rw [List.length_append]; simp at h4 ⊢; omega, h5⟩, ⟨rfl, rfl, rfl, by simp, fun k _ hk => setRow_other w g k _ (fun e => hk (by simp [Value.ownBlock, e]))⟩⟩
      rw [setRow_heap w g _ _ e _ h3, hsz]
      congr 2
      have e1 : (blk .i64 (flP (l ++ p :: r))).toList = (flP l).map (Value.int .i64) ++ (Value.int .i64 p.1 :: .int .i64 p.2 :: (flP r).map (Value.int .i64)) := by rw [flP_append, flP_cons]; simp [blk]
      have e2 : ((flP l).map (Value.int .i64)).length = l.length * 2 := by rw [List.length_map, flP_len]; omega
      rw [e1, List.take_left' e2, List.drop_append, List.drop_eq_nil_of_le (by rw [e2]; simp), e2, List.append_assoc, flP_append, flP_append, flP_cons, flP_nil]
      simp [blk]
    · have hcn : l.length = cap := by omega
      have hr0 : r = [] := List.eq_nil_of_length_eq_zero (by omega)
      subst hr0
      rw [List.append_nil] at h3
      have holds : ∀ j u, ((flP l).map (Value.int .i64))[j]? = some u → w.cell? ((⟨g, 0, none⟩ : Addr).add j) = some u := by
        intro j u hu
        rw [Go.WideShapes.add_plain, Nat.zero_add, cell_of_row w g j _ _ _ h3]
        simpa [blk] using hu
      have hr := run_append_grow (P := P) w t ty e i _ ht hi1 hz ⟨g, 0, none⟩ l.length cap _ (by rw [hsz, List.length_map, flP_len]; omega) holds a 1 c _ hl hnews (by omega) (by omega) (growslice_fits (by omega) (by rw [hby]; omega))
      have hge := grownCap_ge w (l.length + 1) cap e
      refine ⟨_, _, hr, .inr ⟨_, _, zeroP (grownCap w (l.length + 1) cap e - (l.length + 1)), by rw [List.length_append]; rfl, hbase, ?_, by rw [List.length_append, zeroP_len]; simp; omega, grownCap_le_maxLen w (l.length + 1) cap e (by simp only [maxLen]; omega)⟩, ⟨rfl, rfl, rfl, by simp, fun k hk _ => heap_alloc_old w.drew _ hk⟩⟩
      have := heap_alloc_new w.drew (.cells (((flP l).map (Value.int .i64)).toArray ++ [Value.int .i64 x, .int .i64 y].toArray ++ Builtin.zeroCells (Value.agg #[.int .i64 0, .int .i64 0]).cells (grownCap w (l.length + 1) cap e - (l.length + 1))) e)
      rw [zero_two] at this
      rw [zero_two]
      refine this.trans ?_
      have e1 : [Value.int .i64 x, .int .i64 y].toArray = blk .i64 (flP [(x, y)]) := rfl
      have e2 : ((flP l).map (Value.int .i64)).toArray = blk .i64 (flP l) := rfl
      rw [e1, e2, blkP_cat, blkP_cat]

/-- 'append(v, point)': v owned, the point in a box. -/
theorem wpList_append_pt {ops : Array Oper} {rest : List Oper} {o : Oper} {a : Act} {Q : Exit → Act → World → Prop} (w : World) (hgd : o.guard = none) (s x : Operand) (t : TypeId)
    (ho : o.op = .call { callee := .builtin .append, args := #[s, x], argTypes := #[t, t] })
    (base : Nat) (e : TypeId) (ht : P.underlying t = some (.slice e)) (hi : (P.info? e).map (fun i => (i.zero, i.size, i.bytes)) = some (some (.agg #[.int .i64 0, .int .i64 0]), 2, 16))
    (v : Value) (l : List Pt) (hs : a.eval s = v) (hown : PtOwn e w base v l) (ad : Addr) (c : Nat) (p q : Int) (hx : a.eval x = .slice (some ad) 1 c)
    (hnews : ∀ j u, [Value.int .i64 p, .int .i64 q][j]? = some u → w.cell? (ad.add j) = some u) (hb : (l.length + 1) * 16 ≤ 140737488355328) (hbase : base ≤ w.heap.size)
    (h : ∀ v' w', PtOwn e w' base v' (l ++ [(p, q)]) → w.grownBy w' v.ownBlock → wpList P ops Q rest (a.put o.dst v') w') : wpList P ops Q (o :: rest) a w := by
  obtain ⟨v', w', hrun, h1, h2⟩ := run_append_pt (P := P) w base t o.type e ht hi v l hown ad c p q hnews hb hbase
  refine wpList_plain hgd fun K hK => ?_
  unfold Oper.wp
  simp [execOp, ho, resolve, invoke, builtin, hs, hx, hrun, Result.andThen]
  exact hK _ _ (h v' w' h1 h2)
end
/-- The cells of a point in a new box. -/
theorem box_two (w : World) (t : TypeId) (x y : Int) : ∀ j u, [Value.int .i64 x, .int .i64 y][j]? = some u → (w.alloc (.cells #[.int .i64 x, .int .i64 y] t)).cell? ((⟨w.heap.size, 0, none⟩ : Addr).add j) = some u := by
  intro j u hu
  rw [Go.WideShapes.add_plain, Nat.zero_add, World.cell?_alloc_at _ _ _ _ rfl]
  simpa using hu

/-- A call returns a list of points of its own; nothing that was there has turned. -/
def MakesT (w : World) (l : List Pt) (e : Ending) (w' : World) : Prop := ∃ v, e = .returned v ∧ PtOwn 27 w' w.heap.size v l ∧ Below w.heap.size w w'

set_option maxHeartbeats 400000 in
theorem copy_pt (A : Option Addr) (n c : Nat) (l : List Pt) (w : World) (hr : Row .i64 w w.heap.size A (flP l)) (hn : l.length = n) (hb : n * 16 ≤ 140737488355328) :
    Calls Try.prog 22 #[.slice A n c] w (MakesT w l) := by
  have hn' := Lib.hid hn
  clear hn
  go_enter Try.func22, Try.ntmps22
  go_wp2
  go_loopw [3, 4] (fun v i wr => ∃ k : Nat, k ≤ n ∧ i = .int .i64 k ∧ PtOwn 27 wr w.heap.size v (l.take k) ∧ Below w.heap.size w wr) (fun _ i _ => n - (intOf i).toNat)
  case atStart => exact ⟨0, by omega, rfl, PtOwn.nil _ _ _, Below.refl _ _⟩
  case round =>
    obtain ⟨k, hk, rfl, hown, hbel⟩ := hrel
    by_cases hlt : k < n
    · obtain ⟨b, o, rfl, hb1, hc1, hc2⟩ := (hr.below hbel).pt (k := k) (by have := hn'.out; omega)
      have hl : Hid (((l.take k).length + 1) * 16 ≤ 140737488355328) := Lib.hid (by have := hn'.out; rw [List.length_take]; omega)
      have hbox := box_two wr 27 (ptX l k) (ptY l k)
      have hsz := hbel.size
      have HT := Lib.hid (takeP_step l k (by have := hn'.out; omega))
      go_wp2_with (at_builtin; refine wpList_append_pt _ rfl _ _ 33 rfl w.heap.size 27 Try.underlying33 info_pt _ (l.take k) rfl (hown.alloc _) _ 1 _ _ rfl hbox hl.out (by simp; omega) ?_; intro v1 w1 hown1 hg1)
      have hbel1 := Below.ptown1 hbel hsz hown hg1
      rw [← HT.out] at hown1
      clear hbox hc1 hc2 hg1 hown
      go_wp2
      go_roundw
      case rel => exact ⟨k + 1, by omega, by go_num, hown1, hbel1⟩
      case measure => simp [intOf]; omega
    · have hx : l.take k = l := List.take_of_length_le (by have := hn'.out; omega)
      rw [hx] at hown
      clear hx
      go_wp2
      go_ret
      exact ⟨_, rfl, hown, hbel⟩
end Go.Proofs.Ytggijpfmcidpaaa
