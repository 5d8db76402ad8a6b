/-
  Lists of parts of files that the call itself has made: every cell of their block is an integer. Appending, copying and writing over.
-/
import Derived.Test.YtojjcmkadmofdaaPtKit
import Derived.Laws.AppendOwn
namespace Go.Proofs.Ytojjcmkadmofdaa
open Go.RowKit
set_option linter.unusedVariables false

/-- The slice v is nil and fl empty, or v begins a block of the call's own, whose cells are the integers fl, three an element, and others behind them. -/
def POwn (e : TypeId) (w : World) (base : Nat) (v : Value) (fl : List Int) : Prop :=
  (v = .slice none 0 0 ∧ fl = []) ∨
  ∃ (g n cap : Nat) (r : List Int), v = .slice (some ⟨g, 0, none⟩) n cap ∧ base ≤ g ∧ fl.length = 3 * n ∧ w.heap[g]? = some (.cells (blk .i64 (fl ++ r)) e (0, 0)) ∧ n ≤ cap ∧ cap ≤ maxLen ∧ fl.length + r.length = 3 * cap

theorem POwn.nil (e : TypeId) (w : World) (base : Nat) : POwn e w base (.slice none 0 0) [] := .inl ⟨rfl, rfl⟩
theorem POwn.below {e : TypeId} {w w' : World} {base B : Nat} {v : Value} {fl : List Int} (h : POwn e w base v fl) (hb : Below B w w') (hB : w.heap.size ≤ B) : POwn e w' base v fl := by
  rcases h with h | ⟨g, n, cap, r, h1, h2, h3, h4, h5⟩
  · exact .inl h
  · exact .inr ⟨g, n, cap, r, h1, h2, h3, (hb.block g (by have := block_lt h4; omega)).trans h4, h5⟩
theorem POwn.alloc {e : TypeId} {w : World} {base : Nat} {v : Value} {fl : List Int} (h : POwn e w base v fl) (o : Obj) : POwn e (w.alloc o) base v fl :=
  h.below ((Below.refl w.heap.size w).alloc (Nat.le_refl _) o) (Nat.le_refl _)
theorem POwn.drewN {e : TypeId} {w : World} {base : Nat} {v : Value} {fl : List Int} (h : POwn e w base v fl) (n : Nat) : POwn e (w.drewN n) base v fl := h
theorem POwn.mono {e : TypeId} {w : World} {base base' : Nat} {v : Value} {fl : List Int} (h : POwn e w base v fl) (hb : base' ≤ base) : POwn e w base' v fl := by
  rcases h with h | ⟨g, n, cap, r, h1, h2, h3⟩
  · exact .inl h
  · exact .inr ⟨g, n, cap, r, h1, by omega, h3⟩
theorem POwn.block {e : TypeId} {w : World} {base : Nat} {v : Value} {fl : List Int} (h : POwn e w base v fl) : ∀ g, v.ownBlock = some g → base ≤ g ∧ g < w.heap.size := by
  intro g hg
  rcases h with ⟨rfl, _⟩ | ⟨g', n, cap, r, rfl, h2, h3, h4, h5⟩
  · cases hg
  · injection hg with hg
    subst hg
    exact ⟨h2, block_lt h4⟩
theorem Below.pown {e : TypeId} {w0 w w' : World} {base : Nat} {v : Value} {fl : List Int} (hb : Below base w0 w) (hB : base ≤ w.heap.size) (h : POwn e w base v fl) (hg : w.grownBy w' v.ownBlock) : Below base w0 w' :=
  hb.grown hg hB fun g e => (h.block g e).1
theorem Below.pown1 {e : TypeId} {w0 w w' : World} {base : Nat} {v : Value} {fl : List Int} {o : Obj} (hb : Below base w0 w) (hB : base ≤ w.heap.size) (h : POwn e w base v fl) (hg : (w.alloc o).grownBy w' v.ownBlock) : Below base w0 w' :=
  Below.pown (hb.alloc hB o) (by simp; omega) (h.alloc o) hg
theorem POwn.row {e : TypeId} {w : World} {base : Nat} {v : Value} {fl : List Int} (h : POwn e w base v fl) (hw : ∀ x ∈ fl, (Lit.int .i64 x).wf = true) :
    ∃ A n c, v = .slice A n c ∧ Row .i64 w w.heap.size A fl ∧ fl.length = 3 * n ∧ n ≤ c ∧ c ≤ maxLen := by
  rcases h with ⟨rfl, rfl⟩ | ⟨g, n, cap, r, rfl, h2, h3, h4, h5, h6, _⟩
  · exact ⟨none, 0, 0, rfl, Row.nil _ _ _ _, rfl, Nat.le_refl _, Nat.zero_le _⟩
  · exact ⟨_, n, cap, rfl, (Row.of_block h4 fl hw (List.prefix_append _ _)).more (block_lt h4), h3, h5, h6⟩

theorem zero_three (m : Nat) : Builtin.zeroCells (Value.agg #[.int .i64 0, .int .i64 0, .int .i64 0]).cells m = blk .i64 (List.replicate (3 * m) 0) := by
  rw [← made_three m]; rfl
theorem blk_toArray (k : IntKind) (l m : List Int) : (l.map (Value.int k)).toArray ++ (m.map (Value.int k)).toArray = blk k (l ++ m) := by simp [blk]

section
variable {P : Program}
theorem run_append_part (w : World) (base : Nat) (t ty e : TypeId) (ht : P.underlying t = some (.slice e)) (hi : (P.info? e).map (fun i => (i.zero, i.size, i.bytes)) = some (some (.agg #[.int .i64 0, .int .i64 0, .int .i64 0]), 3, 24))
    (v : Value) (fl : List Int) (hown : POwn e w base v fl) (a : Addr) (c : Nat) (x y z : Int) (hnews : ∀ j u, [Value.int .i64 x, .int .i64 y, .int .i64 z][j]? = some u → w.cell? (a.add j) = some u)
    (hb : fl.length ≤ 3000000) (hbase : base ≤ w.heap.size) :
    ∃ v' w', (Builtin.append_ #[t, t] ty #[v, .slice (some a) 1 c]).run P w = .ok v' w' ∧ POwn e w' base v' (fl ++ [x, y, z]) ∧ w.grownBy w' v.ownBlock := by
  obtain ⟨i, hi1, hz, hsz, hby⟩ := info_parts hi
  have hl : [Value.int .i64 x, .int .i64 y, .int .i64 z].length = 1 * i.size := by rw [hsz]; rfl
  rcases hown with ⟨rfl, rfl⟩ | ⟨g, n, cap, r, rfl, h2, h3, h4, h5, h6, h7⟩
  · have hr := run_append_nil (P := P) w t ty e i _ ht hi1 hz a 1 c _ hl hnews (by omega) (by omega) (by rw [hby]; omega)
    have hge := grownCap_ge w 1 0 e
    refine ⟨_, _, hr, .inr ⟨_, 1, _, List.replicate (3 * (grownCap w 1 0 e - 1)) 0, rfl, hbase, rfl, ?_, hge, grownCap_le_maxLen w 1 0 e (by simp [maxLen]), ?_⟩, ⟨rfl, rfl, rfl, by simp, fun k hk _ => heap_alloc_old w.drew _ hk⟩⟩
    · have := heap_alloc_new w.drew (.cells ([Value.int .i64 x, .int .i64 y, .int .i64 z].toArray ++ Builtin.zeroCells (Value.agg #[.int .i64 0, .int .i64 0, .int .i64 0]).cells (grownCap w 1 0 e - 1)) e)
      rw [zero_three] at this
      rw [zero_three]
      exact this.trans (by simp [blk])
    · simp; omega
  · by_cases hroom : n + 1 ≤ cap
    · have hcs : (blk .i64 (fl ++ r)).size = 3 * cap := by rw [blk_size, List.length_append]; exact h7
      have hr := run_append_room (P := P) w t ty e i ht hi1 g n cap _ h4 a 1 c _ hl hnews (by simp [Value.oneCell']) hroom (by rw [hsz, hcs]; simp; omega)
      refine ⟨_, _, hr, .inr ⟨g, n + 1, cap, r.drop 3, rfl, h2, ?_, ?_, hroom, h6, ?_⟩, ⟨rfl, rfl, rfl, by simp, fun k _ hk => setRow_other w g k _ (fun e => hk (by simp [Value.ownBlock, e]))⟩⟩
      · simp; omega
      · rw [setRow_heap w g _ _ e _ h4, hsz]
        congr 2
        have e1 : (blk .i64 (fl ++ r)).toList = fl.map (Value.int .i64) ++ r.map (Value.int .i64) := by simp [blk]
        have e2 : (fl.map (Value.int .i64)).length = n * 3 := by simp; omega
        rw [e1, List.take_left' e2, List.drop_append]
        simp [blk, h3]
        rw [List.drop_eq_nil_of_le (by simp; omega), show n * 3 + 3 - 3 * n = 3 by omega]
        simp
      · simp; omega
    · have hcn : n = cap := by omega
      subst hcn
      have holds : ∀ j u, (fl.map (Value.int .i64))[j]? = some u → w.cell? ((⟨g, 0, none⟩ : Addr).add j) = some u := by
        intro j u hu
        rw [Go.WideShapes.add_plain, Nat.zero_add, cell_of_row w g j _ _ _ h4]
        simp only [blk, List.map_append, List.getElem?_toArray]
        rw [List.getElem?_append_left (by
          rcases Nat.lt_or_ge j (fl.map (Value.int .i64)).length with h | h
          · exact h
          · rw [List.getElem?_eq_none h] at hu; cases hu)]
        exact hu
      have hr := run_append_grow (P := P) w t ty e i _ ht hi1 hz ⟨g, 0, none⟩ n n _ (by rw [hsz]; simp; omega) holds a 1 c _ hl hnews (by omega) (by omega) (growslice_fits (by omega) (by rw [hby]; omega))
      have hge := grownCap_ge w (n + 1) n e
      refine ⟨_, _, hr, .inr ⟨_, n + 1, _, List.replicate (3 * (grownCap w (n + 1) n e - (n + 1))) 0, rfl, hbase, by simp; omega, ?_, hge, grownCap_le_maxLen w (n + 1) n e (by simp only [maxLen]; omega), ?_⟩, ⟨rfl, rfl, rfl, by simp, fun k hk _ => heap_alloc_old w.drew _ hk⟩⟩
      · have := heap_alloc_new w.drew (.cells ((fl.map (Value.int .i64)).toArray ++ [Value.int .i64 x, .int .i64 y, .int .i64 z].toArray ++ Builtin.zeroCells (Value.agg #[.int .i64 0, .int .i64 0, .int .i64 0]).cells (grownCap w (n + 1) n e - (n + 1))) e)
        rw [zero_three] at this
        rw [zero_three]
        exact this.trans (by simp [blk])
      · simp; omega

/-- 'append(v, part)': v owned, the part in a box. -/
theorem wpList_append_part {ops : Array Oper} {rest : List Oper} {o : Oper} {a : Act} {Q : Exit → Act → World → Prop} (w : World) (hgd : o.guard = none) (s x : Operand) (t : TypeId)
    (ho : o.op = .call { callee := .builtin .append, args := #[s, x], argTypes := #[t, t] })
    (base : Nat) (e : TypeId) (ht : P.underlying t = some (.slice e)) (hi : (P.info? e).map (fun i => (i.zero, i.size, i.bytes)) = some (some (.agg #[.int .i64 0, .int .i64 0, .int .i64 0]), 3, 24))
    (v : Value) (fl : List Int) (hs : a.eval s = v) (hown : POwn e w base v fl) (ad : Addr) (c : Nat) (p q r : Int) (hx : a.eval x = .slice (some ad) 1 c)
    (hnews : ∀ j u, [Value.int .i64 p, .int .i64 q, .int .i64 r][j]? = some u → w.cell? (ad.add j) = some u) (hb : fl.length ≤ 3000000) (hbase : base ≤ w.heap.size)
    (h : ∀ v' w', POwn e w' base v' (fl ++ [p, q, r]) → w.grownBy w' v.ownBlock → wpList P ops Q rest (a.put o.dst v') w') : wpList P ops Q (o :: rest) a w := by
  obtain ⟨v', w', hrun, h1, h2⟩ := run_append_part (P := P) w base t o.type e ht hi v fl hown ad c p q r hnews hb hbase
  refine wpList_plain hgd fun K hK => ?_
  unfold Oper.wp
  simp [execOp, ho, resolve, invoke, builtin, hs, hx, hrun, Result.andThen]
  exact hK _ _ (h v' w' h1 h2)
end
/-- The cells of a part in a new box. -/
theorem box_three (w : World) (t : TypeId) (x y z : Int) : ∀ j u, [Value.int .i64 x, .int .i64 y, .int .i64 z][j]? = some u → (w.alloc (.cells #[.int .i64 x, .int .i64 y, .int .i64 z] t)).cell? ((⟨w.heap.size, 0, none⟩ : Addr).add j) = some u := by
  intro j u hu
  rw [Go.WideShapes.add_plain, Nat.zero_add, World.cell?_alloc_at _ _ _ _ rfl]
  simpa using hu

/-- A call returns a list of parts of its own; nothing that was there has turned. -/
def MakesP (w : World) (fl : List Int) (e : Ending) (w' : World) : Prop := ∃ v, e = .returned v ∧ POwn 47 w' w.heap.size v fl ∧ Below w.heap.size w w'

set_option maxHeartbeats 400000 in
theorem copy_part (A : Option Addr) (n c : Nat) (fl : List Int) (w : World) (hr : Row .i64 w w.heap.size A fl) (hn : fl.length = 3 * n) (hb : n ≤ 100000) :
    Calls Try.prog 62 #[.slice A n c] w (MakesP w fl) := by
  have hn' := Lib.hid hn
  clear hn
  go_enter Try.func62, Try.ntmps62
  go_wp2
  go_loopw [3, 4] (fun v i wr => ∃ k : Nat, k ≤ n ∧ i = .int .i64 k ∧ POwn 47 wr w.heap.size v (fl.take (3 * k)) ∧ Below w.heap.size w wr) (fun _ i _ => n - (intOf i).toNat)
  case atStart => exact ⟨0, by omega, rfl, POwn.nil _ _ _, Below.refl _ _⟩
  case round =>
    obtain ⟨k, hk, rfl, hown, hbel⟩ := hrel
    by_cases hlt : k < n
    · obtain ⟨b, o, rfl, hb1, hc1, hc2, hc3⟩ := (hr.below hbel).three (k := k) (by have := hn'.out; omega)
      have hl : Hid ((fl.take (3 * k)).length ≤ 3000000) := Lib.hid (by have := hn'.out; simp; omega)
      have hbox := box_three wr 47 (nth fl (3 * k)) (nth fl (3 * k + 1)) (nth fl (3 * k + 2))
      have hsz := hbel.size
      have HT := Lib.hid (take_three fl k (by have := hn'.out; omega))
      go_wp2_with (at_builtin; refine wpList_append_part _ rfl _ _ 24 rfl w.heap.size 47 Try.underlying24 info_part _ (fl.take (3 * k)) rfl (hown.alloc _) _ 1 _ _ _ rfl hbox hl.out (by simp; omega) ?_; intro v1 w1 hown1 hg1)
      have hbel1 := Below.pown1 hbel hsz hown hg1
      rw [← HT.out] at hown1
      clear hbox hc1 hc2 hc3 hg1 hown
      go_wp2
      go_roundw
      case rel => exact ⟨k + 1, by omega, by go_num, hown1, hbel1⟩
      case measure => simp [intOf]; omega
    · have hx : fl.take (3 * k) = fl := List.take_of_length_le (by have := hn'.out; omega)
      rw [hx] at hown
      clear hx
      go_wp2
      go_ret
      exact ⟨_, rfl, hown, hbel⟩
end Go.Proofs.Ytojjcmkadmofdaa
