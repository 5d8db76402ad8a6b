/-
  Slices of integers of the call's own whose block is known whole, and an append to a slice that fills its block.
-/
import Derived.Test.YtmbjcmagadekpaaMore
import Derived.Laws.AppendOwn
namespace Go.Proofs.Ytmbjcmagadekpaa
open Go.RowKit
set_option linter.unusedVariables false

/-- The slice v is nil and xs empty, or v begins a block of the call's own, whose cells are the integers xs, and others behind them. -/
def KOwn (k : IntKind) (e : TypeId) (w : World) (base : Nat) (v : Value) (xs : List Int) : Prop :=
  (v = .slice none 0 0 ∧ xs = []) ∨
  ∃ (g n cap : Nat) (r : List Int), v = .slice (some ⟨g, 0, none⟩) n cap ∧ base ≤ g ∧ xs.length = n ∧ w.heap[g]? = some (.cells (blk k (xs ++ r)) e (0, 0)) ∧ n ≤ cap ∧ cap ≤ maxLen ∧ xs.length + r.length = cap ∧ (∀ x ∈ r, (Lit.int k x).wf = true)
theorem KOwn.nil (k : IntKind) (e : TypeId) (w : World) (base : Nat) : KOwn k e w base (.slice none 0 0) [] := .inl ⟨rfl, rfl⟩
theorem KOwn.below {k : IntKind} {e : TypeId} {w w' : World} {base B : Nat} {v : Value} {xs : List Int} (h : KOwn k e w base v xs) (hb : Below B w w') (hB : w.heap.size ≤ B) : KOwn k e w' base v xs := by
  rcases h with h | ⟨g, n, cap, r, h1, h2, h3, h4, h5⟩
  · exact .inl h
  · exact .inr ⟨g, n, cap, r, h1, h2, h3, (hb.block g (by have := block_lt h4; omega)).trans h4, h5⟩
theorem KOwn.drewN {k : IntKind} {e : TypeId} {w : World} {base : Nat} {v : Value} {xs : List Int} (h : KOwn k e w base v xs) (n : Nat) : KOwn k e (w.drewN n) base v xs := h
theorem KOwn.mono {k : IntKind} {e : TypeId} {w : World} {base base' : Nat} {v : Value} {xs : List Int} (h : KOwn k e w base v xs) (hb : base' ≤ base) : KOwn k e w base' v xs := by
  rcases h with h | ⟨g, n, cap, r, h1, h2, h3⟩
  · exact .inl h
  · exact .inr ⟨g, n, cap, r, h1, by omega, h3⟩
theorem KOwn.block {k : IntKind} {e : TypeId} {w : World} {base : Nat} {v : Value} {xs : List Int} (h : KOwn k e w base v xs) : ∀ g, v.ownBlock = some g → base ≤ g ∧ g < w.heap.size := by
  intro g hg
  rcases h with ⟨rfl, _⟩ | ⟨g', n, cap, r, rfl, h2, h3, h4, h5⟩
  · cases hg
  · injection hg with hg
    subst hg
    exact ⟨h2, block_lt h4⟩
theorem KOwn.own {k : IntKind} {e : TypeId} {w : World} {base : Nat} {v : Value} {xs : List Int} (h : KOwn k e w base v xs) : Own k e w base v xs := by
  rcases h with ⟨rfl, rfl⟩ | ⟨g, n, cap, r, rfl, h2, h3, h4, h5, h6, h7, _⟩
  · exact Own.nil _ _ _ _
  · subst h3
    refine ⟨by simp, .inr ⟨g, cap, _, rfl, h2, h4, h5, h6, by rw [blk_size, List.length_append]; omega, ?_⟩⟩
    rw [Nat.mul_one]
    simp only [blk, List.map_append]
    rw [List.take_left' (by simp)]
theorem KOwn.row {k : IntKind} {e : TypeId} {w : World} {base : Nat} {v : Value} {xs : List Int} (h : KOwn k e w base v xs) (hw : ∀ x ∈ xs, (Lit.int k x).wf = true) :
    ∃ A c, v = .slice A xs.length c ∧ Row k w w.heap.size A xs ∧ xs.length ≤ c ∧ c ≤ maxLen := h.own.row hw
theorem KOwn.kept {k : IntKind} {e : TypeId} {w w' : World} {base : Nat} {v : Value} {xs : List Int} {row : Option Nat} (h : KOwn k e w base v xs) (hg : w.grownBy w' row) (hne : v.ownBlock = none ∨ v.ownBlock ≠ row) : KOwn k e w' base v xs := by
  rcases h with h | ⟨g, n, cap, r, rfl, h2, h3, h4, h5⟩
  · exact .inl h
  · refine .inr ⟨g, n, cap, r, rfl, h2, h3, (hg.block g (block_lt h4) ?_).trans h4, h5⟩
    rcases hne with h | h
    · cases h
    · exact h

section
variable {P : Program}
theorem zero_one (k : IntKind) (m : Nat) : Builtin.zeroCells (Value.int k 0).cells m = blk k (List.replicate m 0) := by
  have h := toList_madeCells_one (Value.int k 0) m
  apply Array.toList_inj.1
  show (madeCells (Value.int k 0).cells (m * 1)).toList = _
  rw [Nat.mul_one, show (Value.int k 0).cells = #[Value.int k 0] from rfl, h]
  simp [blk]
theorem run_append_full (w : World) (t : TypeId) (k : IntKind) (e : TypeId) (bytes : Nat) (ht : P.underlying t = some (.slice e)) (hi : (P.info? e).map (fun i => (i.zero, i.size, i.bytes)) = some (some (.int k 0), 1, bytes))
    (g n : Nat) (xs : List Int) (hg : w.heap[g]? = some (.cells (blk k xs) e (0, 0))) (hn : xs.length = n) (B : Nat) (A : Option Addr) (m c : Nat) (ys : List Int) (hr : Row k w B A ys) (hm : ys.length = m) (h1 : 1 ≤ m)
    (hb : (n + m) * bytes ≤ 140737488355328) (h63 : n + m ≤ maxLen) :
    ∃ cap, (∀ ty, (Builtin.append_ #[t, t] ty #[.slice (some ⟨g, 0, none⟩) n n, .slice A m c]).run P w = .ok (.slice (some ⟨w.heap.size, 0, none⟩) (n + m) cap) (w.drew.alloc (.cells (blk k (xs ++ ys ++ List.replicate (cap - (n + m)) 0)) e))) ∧ n + m ≤ cap ∧ cap ≤ maxLen := by
  obtain ⟨i, hi1, hz, hsz, hby⟩ := info_parts hi
  have h64 := h63
  simp only [maxLen] at h64
  obtain ⟨b, o, rfl, _, hc⟩ := hr.2 (by omega)
  have holds : ∀ j u, (xs.map (Value.int k))[j]? = some u → w.cell? ((⟨g, 0, none⟩ : Addr).add j) = some u := by
    intro j u hu
    rw [Go.WideShapes.add_plain, Nat.zero_add, cell_of_row w g j _ _ _ hg]
    simpa [blk] using hu
  have hnews : ∀ j u, (ys.map (Value.int k))[j]? = some u → w.cell? ((⟨b, o, none⟩ : Addr).add j) = some u := by
    intro j u hu
    rw [List.getElem?_map] at hu
    by_cases hj : j < ys.length
    · rw [List.getElem?_eq_getElem hj] at hu
      rw [Go.WideShapes.add_plain, hc j hj, nth_eq ys j hj]
      exact hu
    · rw [List.getElem?_eq_none (by omega)] at hu
      cases hu
  have hr := fun ty => run_append_grow (P := P) w t ty e i _ ht hi1 hz ⟨g, 0, none⟩ n n (xs.map (Value.int k)) (by rw [hsz]; simp; omega) holds ⟨b, o, none⟩ m c (ys.map (Value.int k)) (by rw [hsz]; simp; omega) hnews (by omega) (by omega) (growslice_fits (by omega) (by rw [hby]; omega))
  have hge := grownCap_ge w (n + m) n e
  refine ⟨grownCap w (n + m) n e, fun ty => ?_, hge, grownCap_le_maxLen w (n + m) n e h63⟩
  rw [hr ty, zero_one]
  congr 3
  apply Array.toList_inj.1
  simp [blk]
/-- An append whose outcome is known. -/
theorem wpList_append_run {ops : Array Oper} {rest : List Oper} {o : Oper} {a : Act} {Q : Exit → Act → World → Prop} (w : World) (hgd : o.guard = none) (s x : Operand) (t : TypeId)
    (ho : o.op = .call { callee := .builtin .append, args := #[s, x], argTypes := #[t, t] }) (v u v' : Value) (w' : World) (hs : a.eval s = v) (hx : a.eval x = u)
    (hrun : ∀ ty, (Builtin.append_ #[t, t] ty #[v, u]).run P w = .ok v' w') (h : wpList P ops Q rest (a.put o.dst v') w') : wpList P ops Q (o :: rest) a w := by
  refine wpList_plain hgd fun K hK => ?_
  unfold Oper.wp
  simp [execOp, ho, resolve, invoke, builtin, hs, hx, hrun, Result.andThen]
  exact hK _ _ h
theorem step_append_run {ops : Array Oper} {o : Oper} {a : Act} {K : Act → World → Prop} {Q : Exit → Act → World → Prop} {E : Prop} (w : World) (hgd : o.guard = none) (s x : Operand) (t : TypeId)
    (ho : o.op = .call { callee := .builtin .append, args := #[s, x], argTypes := #[t, t] }) (v u v' : Value) (w' : World) (hs : a.eval s = v) (hx : a.eval x = u)
    (hrun : ∀ ty, (Builtin.append_ #[t, t] ty #[v, u]).run P w = .ok v' w') (h : K (a.put o.dst v') w') :
    if Region.wanted o (yielded ops a.tmps) = true then Oper.wp P o a w K Q else E := by
  have hw : Region.wanted o (yielded ops a.tmps) = true := by simp [Region.wanted, hgd]
  rw [if_pos hw]
  unfold Oper.wp execOp
  simp only [ho, resolve, invoke, builtin, Sem.run_bind, Sem.run_pure, Result.andThen_ok, List.map_toArray, List.map_cons, List.map_nil, hs, hx, hrun]
  exact h
end
end Go.Proofs.Ytmbjcmagadekpaa
