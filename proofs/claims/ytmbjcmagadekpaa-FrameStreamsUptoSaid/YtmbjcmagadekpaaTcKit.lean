/-
  Lists of frames on a stream that a call has made: each PDU lies in a block of the call's own that is known whole.
-/
import Derived.Test.YtmbjcmagadekpaaFrGet2
namespace Go.Proofs.Ytmbjcmagadekpaa
open Go.RowKit
set_option linter.unusedVariables false

theorem info_tcp : (Try.prog.info? 57).map (fun i => (i.zero, i.size, i.bytes)) = some (some (.agg #[.int .u16 0, .int .u8 0, .slice none 0 0]), 3, 32) := by kernel_rfl

def tcell (p : Tc × Value) : List Value := [.int .u16 p.1.id, .int .u8 p.1.u, p.2]
def tcells : List (Tc × Value) → List Value
  | [] => []
  | p :: L => tcell p ++ tcells L
theorem tcells_length (L : List (Tc × Value)) : (tcells L).length = L.length * 3 := by
  induction L with
  | nil => rfl
  | cons p L ih => rw [tcells, List.length_append, ih]; simp [tcell]; omega
theorem tcells_append (L M : List (Tc × Value)) : tcells (L ++ M) = tcells L ++ tcells M := by
  induction L with
  | nil => rfl
  | cons p L ih => rw [List.cons_append, tcells, tcells, ih, List.append_assoc]
theorem tcells_at (L : List (Tc × Value)) (i j : Nat) (h : i < L.length) (hj : j < 3) : (tcells L)[i * 3 + j]? = (tcell L[i])[j]? := by
  induction L generalizing i with
  | nil => simp at h
  | cons p L ih =>
    rw [tcells]
    cases i with
    | zero => rw [List.getElem?_append_left (by simp [tcell]; omega)]; simp
    | succ i =>
      rw [List.getElem?_append_right (by simp [tcell]; omega), show (i + 1) * 3 + j - (tcell p).length = i * 3 + j by simp [tcell]; omega, ih i (by simpa using h)]
      simp

/-- The slice v owns the frames fs. -/
def TOwn (w : World) (base : Nat) (v : Value) (fs : List Tc) : Prop :=
  ∃ L : List (Tc × Value), L.map Prod.fst = fs ∧ w.ownsRow base 57 3 v L.length (tcells L) ∧ ∀ p ∈ L, KOwn .u8 5 w base p.2 p.1.l ∧ ∃ A n c, p.2 = .slice A n c
theorem TOwn.nil (w : World) (base : Nat) : TOwn w base (.slice none 0 0) [] := ⟨[], rfl, World.ownsRow_nil _ _ _ _, fun p hp => by cases hp⟩
theorem ownsRow_below {w w' : World} {base B n : Nat} {v : Value} {xs : List Value} (h : w.ownsRow base 57 3 v n xs) (hb : Below B w w') (hB : w.heap.size ≤ B) : w'.ownsRow base 57 3 v n xs := by
  refine h.kept (row := none) ⟨hb.os, hb.tape, hb.output, hb.size, fun i hi _ => hb.block i (by omega)⟩ ?_
  cases hv : v.ownBlock with
  | none => exact .inl rfl
  | some g => exact .inr (by simp)
theorem TOwn.below {w w' : World} {base B : Nat} {v : Value} {fs : List Tc} (h : TOwn w base v fs) (hb : Below B w w') (hB : w.heap.size ≤ B) : TOwn w' base v fs := by
  obtain ⟨L, h1, h2, h3⟩ := h
  exact ⟨L, h1, ownsRow_below h2 hb hB, fun p hp => ⟨(h3 p hp).1.below hb hB, (h3 p hp).2⟩⟩
theorem TOwn.block {w : World} {base : Nat} {v : Value} {fs : List Tc} (h : TOwn w base v fs) : ∀ g, v.ownBlock = some g → base ≤ g ∧ g < w.heap.size := by
  obtain ⟨L, h1, h2, h3⟩ := h
  exact World.ownsRow.lt h2
theorem TOwn.mono {w : World} {base base' : Nat} {v : Value} {fs : List Tc} (h : TOwn w base v fs) (hb : base' ≤ base) : TOwn w base' v fs := by
  obtain ⟨L, h1, h2, h3⟩ := h
  refine ⟨L, h1, ⟨h2.1, ?_⟩, fun p hp => ⟨(h3 p hp).1.mono hb, (h3 p hp).2⟩⟩
  rcases h2.2 with h0 | ⟨g, cap, cur, hv, h4, r⟩
  · exact .inl h0
  · exact .inr ⟨g, cap, cur, hv, by omega, r⟩
/-- The block of a list of frames is none of a PDU's. -/
theorem pdu_far {w : World} {base base' : Nat} {v u : Value} {n : Nat} {xs : List Value} {ys : List Int} (h : w.ownsRow base 57 3 v n xs) (k : KOwn .u8 5 w base' u ys) : u.ownBlock = none ∨ u.ownBlock ≠ v.ownBlock := by
  rcases k with ⟨rfl, _⟩ | ⟨g, m, cap, r, rfl, _, _, hg, _⟩
  · exact .inl rfl
  · refine .inr fun e => ?_
    rcases h.2 with ⟨rfl, _⟩ | ⟨g', cap', cur, rfl, _, hg', _⟩
    · cases e
    · have e : some g = some g' := e
      injection e with e
      subst e
      rw [hg] at hg'
      injection hg' with hg'
      injection hg' with _ ht
      exact absurd ht (by decide)
theorem Below.town {w0 w w' : World} {base B : Nat} {v : Value} {fs : List Tc} (hb : Below B w0 w) (hB : B ≤ w.heap.size) (h : TOwn w base v fs) (hBB : B ≤ base) (hg : w.grownBy w' v.ownBlock) : Below B w0 w' :=
  hb.grown hg hB fun g e => Nat.le_trans hBB (h.block g e).1
theorem TOwn.len {w : World} {base : Nat} {v : Value} {fs : List Tc} (h : TOwn w base v fs) : ∃ A c, v = .slice A fs.length c ∧ fs.length ≤ c := by
  obtain ⟨L, rfl, h2, h3⟩ := h
  rw [List.length_map]
  rcases h2.2 with ⟨rfl, h0⟩ | ⟨g, cap, cur, rfl, _, _, h4, _⟩
  · rw [h0]; exact ⟨none, 0, rfl, Nat.le_refl _⟩
  · exact ⟨_, cap, rfl, h4⟩
/-- One frame of the list, where it lies. -/
theorem TOwn.at_ {w : World} {base : Nat} {v : Value} {fs : List Tc} (h : TOwn w base v fs) {i : Nat} (hi : i < fs.length) :
    ∃ g c A m cc, v = .slice (some ⟨g, 0, none⟩) fs.length c ∧ g < w.heap.size ∧ fs.length ≤ c ∧ w.cell? ⟨g, i * 3, none⟩ = some (.int .u16 fs[i].id) ∧ w.cell? ⟨g, i * 3 + 1, none⟩ = some (.int .u8 fs[i].u) ∧ w.cell? ⟨g, i * 3 + 2, none⟩ = some (.slice A m cc) ∧ KOwn .u8 5 w base (.slice A m cc) fs[i].l := by
  obtain ⟨L, rfl, h2, h3⟩ := h
  rw [List.length_map] at hi ⊢
  rcases h2.2 with ⟨rfl, h0⟩ | ⟨g, cap, cur, rfl, hb, hg, h4, h5, h6, h7⟩
  · omega
  · obtain ⟨k, A, m, cc, hs⟩ := h3 _ (List.getElem_mem hi)
    have hcell : ∀ j, j < 3 → w.cell? ⟨g, i * 3 + j, none⟩ = (tcell L[i])[j]? := by
      intro j hj
      rw [cell_of_row w g _ cur _ _ hg, ← tcells_at L i j hi hj, ← h7, List.getElem?_take_of_lt (by omega), Array.getElem?_toList]
    have c0 := hcell 0 (by omega)
    have c1 := hcell 1 (by omega)
    have c2 := hcell 2 (by omega)
    rw [hs] at k
    refine ⟨g, cap, A, m, cc, rfl, block_lt hg, h4, ?_, ?_, ?_, ?_⟩
    · rw [Nat.add_zero] at c0; rw [c0]; simp [tcell]
    · rw [c1]; simp [tcell]
    · rw [c2]; simp [tcell, hs]
    · simpa using k

section
variable {P : Program}
/-- 'append(v, f)' of a frame in a box. -/
theorem wpList_append_tcp {ops : Array Oper} {rest : List Oper} {o : Oper} {a : Act} {Q : Exit → Act → World → Prop} (w : World) (hgd : o.guard = none) (s x : Operand) (t : TypeId)
    (ho : o.op = .call { callee := .builtin .append, args := #[s, x], argTypes := #[t, t] }) (base : Nat) (ht : P.underlying t = some (.slice 57)) (hi : (P.info? 57).map (fun i => (i.zero, i.size, i.bytes)) = some (some (.agg #[.int .u16 0, .int .u8 0, .slice none 0 0]), 3, 32))
    (v : Value) (fs : List Tc) (hs : a.eval s = v) (hown : TOwn w base v fs) (ad : Addr) (c : Nat) (f : Tc) (A : Option Addr) (m cc : Nat) (hx : a.eval x = .slice (some ad) 1 c)
    (hk : KOwn .u8 5 w base (.slice A m cc) f.l) (hnews : ∀ j u, [Value.int .u16 f.id, .int .u8 f.u, .slice A m cc][j]? = some u → w.cell? (ad.add j) = some u) (hb : fs.length ≤ 4000000000000) (hbase : base ≤ w.heap.size)
    (h : ∀ v' w', TOwn w' base v' (fs ++ [f]) → w.grownBy w' v.ownBlock → wpList P ops Q rest (a.put o.dst v') w') : wpList P ops Q (o :: rest) a w := by
  obtain ⟨i, hi1, hz, hsz, hby⟩ := info_parts hi
  obtain ⟨L, rfl, h2, h3⟩ := hown
  rw [List.length_map] at hb
  refine wpList_append_own w hgd s x t ho base 57 i _ 3 32 ht hi1 hz hsz hby rfl (by omega) v L.length (tcells L) hs h2 ad 1 c [.int .u16 f.id, .int .u8 f.u, .slice A m cc] hx rfl hnews (by simp [Value.oneCell']) (by simp only [maxLen]; omega) (by omega) hbase fun v' w' h4 h5 _ => h v' w' ?_ h5
  refine ⟨L ++ [(f, .slice A m cc)], by simp, ?_, fun p hp => ?_⟩
  · rw [tcells_append, List.length_append]
    exact h4
  · rcases List.mem_append.1 hp with hp | hp
    · exact ⟨(h3 p hp).1.kept h5 (pdu_far h2 (h3 p hp).1), (h3 p hp).2⟩
    · simp only [List.mem_singleton] at hp
      subst hp
      exact ⟨hk.kept h5 (pdu_far h2 hk), _, _, _, rfl⟩
end
/-- The cells of a frame in a new box. -/
theorem box_tcp (w : World) (t : TypeId) (x y z : Value) : ∀ j u, [x, y, z][j]? = some u → (w.alloc (.cells #[x, y, z] t)).cell? ((⟨w.heap.size, 0, none⟩ : Addr).add j) = some u := by
  intro j u hu
  rw [Go.WideShapes.add_plain, Nat.zero_add, World.cell?_alloc_at _ _ _ _ rfl]
  simpa using hu
end Go.Proofs.Ytmbjcmagadekpaa
