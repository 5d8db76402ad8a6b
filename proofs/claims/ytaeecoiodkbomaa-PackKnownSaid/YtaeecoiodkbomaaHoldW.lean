/-
  Words for what a walk holds: blocks that are known whole, slices that are nil or fill a block, and entries for ApartWords.
-/
import Derived.Test.YtaeecoiodkbomaaApartW
import Derived.Test.YtaeecoiodkbomaaHold
namespace Go.Proofs.Ytaeecoiodkbomaa.W
open Go.RowKit
set_option linter.unusedVariables false

theorem below_drewN {B : Nat} {a w : World} (h : Below B a w) (n : Nat) : Below B a (w.drewN n) := ⟨h.os, h.tape, h.output, h.size, h.block⟩
/-- Block g is just the row l. (A name: so the walk does not rewrite by it.) -/
def Bk (w : World) (g : Nat) (l : List Int) : Prop := w.heap[g]? = some (.cells (blk .u16 l) 56 (0, 0))
theorem Bk.below {w w' : World} {g : Nat} {l : List Int} (h : Bk w g l) (hb : Below w.heap.size w w') : Bk w' g l := (hb.block g (block_lt h)).trans h
theorem Bk.lt {w : World} {g : Nat} {l : List Int} (h : Bk w g l) : g < w.heap.size := block_lt h
theorem Bk.drewN {w : World} {g : Nat} {l : List Int} (h : Bk w g l) (n : Nat) : Bk (w.drewN n) g l := h
theorem Bk.row {w : World} {g : Nat} {l : List Int} (h : Bk w g l) (xs : List Int) (hw : ∀ x ∈ xs, (Lit.int .u16 x).wf = true) (hp : xs <+: l) : Row .u16 w w.heap.size (some ⟨g, 0, none⟩) xs :=
  (Row.of_block h xs hw hp).more h.lt
/-- A slice that is nil, or the beginning of block g. -/
def Li (w : World) (A : Option Addr) (m g : Nat) (l r : List Int) : Prop := A = none ∧ m = 0 ∨ A = some ⟨g, 0, none⟩ ∧ Bk w g (l ++ r)
theorem Li.below {w w' : World} {A : Option Addr} {m g : Nat} {l r : List Int} (h : Li w A m g l r) (hb : Below w.heap.size w w') : Li w' A m g l r := by
  rcases h with h | ⟨h1, h2⟩
  · exact .inl h
  · exact .inr ⟨h1, h2.below hb⟩
theorem Li.row {w : World} {A : Option Addr} {m g : Nat} {l r : List Int} (h : Li w A m g l r) (hm : l.length = m) (hw : ∀ x ∈ l, (Lit.int .u16 x).wf = true) : Row .u16 w w.heap.size A l := by
  rcases h with ⟨h1, h2⟩ | ⟨h1, h2⟩
  · have : l = [] := List.eq_nil_of_length_eq_zero (by omega)
    subst this
    exact Row.nil _ _ _ _
  · subst h1
    exact h2.row l hw (List.prefix_append _ _)
theorem bel_drewN (w : World) (n : Nat) : Below w.heap.size w (w.drewN n) := ⟨rfl, rfl, rfl, Nat.le_refl _, fun _ _ => rfl⟩

/-- A slice that is nil or the beginning of a block, as an entry. -/
theorem Li.ent {w : World} {A : Option Addr} {m g B : Nat} {l r : List Int} (h : Li w A m g l r) (hm : l.length = m) (hw : ∀ x ∈ l, (Lit.int .u16 x).wf = true) (hB : B ≤ g) (hmm : m ≤ 70368744173568) :
    ∃ E : Ent, E.val = .slice A m m ∧ E.Ok w B ∧ (E.a = none ∨ E.a = some g) ∧ (A = none → E.a = none) := by
  rcases h with ⟨h1, h2⟩ | ⟨h1, h2⟩
  · subst h1 h2
    exact ⟨⟨none, 0, 0, l, r⟩, rfl, ⟨⟨Nat.le_refl _, by show 0 ≤ _; omega, hm⟩, hw, .inl ⟨rfl, rfl, rfl⟩⟩, .inl rfl, fun _ => rfl⟩
  · subst h1
    exact ⟨⟨some g, m, m, l, r⟩, rfl, ⟨⟨Nat.le_refl _, by show m ≤ _; omega, hm⟩, hw, .inr ⟨g, rfl, hB, h2⟩⟩, .inr rfl, fun h => by cases h⟩

/-- A call returns a pair: a list that is nil or fills the first new block, and a number. -/
def Gives (w : World) (l : List Int) (err : Int) (e : Ending) (w' : World) : Prop :=
  ∃ A m, e = .returned (.tuple #[.slice A m m, .int .i64 err]) ∧ l.length = m ∧ Li w' A m w.heap.size l [] ∧ Below w.heap.size w w'
/-- A call returns a pair: a list of its own, and a number. -/
def GivesOwn (w : World) (l : List Int) (err : Int) (e : Ending) (w' : World) : Prop :=
  ∃ v, e = .returned (.tuple #[v, .int .i64 err]) ∧ Own .u16 56 w' w.heap.size v l ∧ Below w.heap.size w w'
theorem Li.lt {w : World} {A : Option Addr} {m g : Nat} {l r : List Int} (h : Li w A m g l r) : A = none ∨ g < w.heap.size := by
  rcases h with ⟨h1, _⟩ | ⟨_, h2⟩
  · exact .inl h1
  · exact .inr h2.lt
/-- Two answers that are nil or fill a block, and perhaps a lent list, share no memory. -/
theorem apart2_u16 (w : World) (B : Nat) (A1 A2 : Option Addr) (m1 m2 g1 g2 : Nat) (l1 l2 : List Int) (t : TypeId) (h1 : Li w A1 m1 g1 l1 []) (h2 : Li w A2 m2 g2 l2 []) (n1 : l1.length = m1) (n2 : l2.length = m2)
    (f1 : ∀ x ∈ l1, (Lit.int .u16 x).wf = true) (f2 : ∀ x ∈ l2, (Lit.int .u16 x).wf = true) (b1 : B ≤ g1) (b2 : B ≤ g2) (q1 : m1 ≤ 70368744173568) (q2 : m2 ≤ 70368744173568) (h12 : A1 = none ∨ g1 < g2) (hB : B ≤ w.heap.size) :
    Calls Try.prog 36 #[.slice (some ⟨w.heap.size, 0, none⟩) 2 2] (w.alloc (.cells #[.slice A1 m1 m1, .slice A2 m2 m2] t)) fun e w' => e = .returned (.bool true) ∧ Below B w w' := by
  obtain ⟨E1, v1, o1, a1, z1⟩ := h1.ent (B := B) n1 f1 b1 q1
  obtain ⟨E2, v2, o2, a2, z2⟩ := h2.ent (B := B) n2 f2 b2 q2
  have hfar : [E1, E2].Pairwise Ent.Far := by
    refine List.pairwise_cons.2 ⟨fun e he => ?_, List.pairwise_singleton _ _⟩
    simp only [List.mem_singleton] at he
    subst he
    intro g h3 h4
    rcases a1 with h | h <;> rw [h] at h3
    · cases h3
    · rcases a2 with h' | h' <;> rw [h'] at h4
      · cases h4
      · injection h3; injection h4
        rcases h12 with h0 | h0
        · rw [z1 h0] at h; cases h
        · omega
  have hok : ∀ e ∈ [E1, E2], e.Ok w B := by
    intro e he
    simp only [List.mem_cons, List.not_mem_nil, or_false] at he
    rcases he with rfl | rfl
    · exact o1
    · exact o2
  have h := apart_list_u16 w B _ t hok hfar hB (by simp)
  simp only [List.map_cons, List.map_nil, v1, v2] at h
  exact h
theorem apart3_u16 (w : World) (B : Nat) (A1 A2 : Option Addr) (m1 m2 g1 g2 g m : Nat) (l1 l2 l : List Int) (t : TypeId) (h1 : Li w A1 m1 g1 l1 []) (h2 : Li w A2 m2 g2 l2 []) (h3 : Bk w g (l ++ marks5)) (n1 : l1.length = m1) (n2 : l2.length = m2) (n3 : l.length = m)
    (f1 : ∀ x ∈ l1, (Lit.int .u16 x).wf = true) (f2 : ∀ x ∈ l2, (Lit.int .u16 x).wf = true) (f3 : ∀ x ∈ l, (Lit.int .u16 x).wf = true) (b3 : B ≤ g) (b1 : g < g1) (b2 : g < g2) (q1 : m1 ≤ 70368744173568) (q2 : m2 ≤ 70368744173568) (q3 : m ≤ 70368744173568) (h12 : A1 = none ∨ g1 < g2) (hB : B ≤ w.heap.size) :
    Calls Try.prog 36 #[.slice (some ⟨w.heap.size, 0, none⟩) 3 3] (w.alloc (.cells #[.slice A1 m1 m1, .slice A2 m2 m2, .slice (some ⟨g, 0, none⟩) m (m + 5)] t)) fun e w' => e = .returned (.bool true) ∧ Below B w w' := by
  obtain ⟨E1, v1, o1, a1, z1⟩ := h1.ent (B := B) n1 f1 (by omega) q1
  obtain ⟨E2, v2, o2, a2, z2⟩ := h2.ent (B := B) n2 f2 (by omega) q2
  have hfar : [E1, E2, ⟨some g, m, m + 5, l ++ marks5, []⟩].Pairwise Ent.Far := by
    refine List.pairwise_cons.2 ⟨fun e he => ?_, List.pairwise_cons.2 ⟨fun e he => ?_, List.pairwise_singleton _ _⟩⟩
    · simp only [List.mem_cons, List.not_mem_nil, or_false] at he
      rcases he with rfl | rfl
      · intro q h5 h4
        rcases a1 with h | h <;> rw [h] at h5
        · cases h5
        · rcases a2 with h' | h' <;> rw [h'] at h4
          · cases h4
          · injection h5; injection h4
            rcases h12 with h0 | h0
            · rw [z1 h0] at h; cases h
            · omega
      · intro q h5 h4
        have h4 : some g = some q := h4
        injection h4
        rcases a1 with h | h <;> rw [h] at h5
        · cases h5
        · injection h5; omega
    · simp only [List.mem_singleton] at he
      subst he
      intro q h5 h4
      have h4 : some g = some q := h4
      injection h4
      rcases a2 with h | h <;> rw [h] at h5
      · cases h5
      · injection h5; omega
  have hok : ∀ e ∈ [E1, E2, ⟨some g, m, m + 5, l ++ marks5, []⟩], e.Ok w B := by
    intro e he
    simp only [List.mem_cons, List.not_mem_nil, or_false] at he
    rcases he with rfl | rfl | rfl
    · exact o1
    · exact o2
    · exact ⟨⟨by show m ≤ m + 5; omega, by show m + 5 ≤ _; omega, by show (l ++ marks5).length = m + 5; rw [List.length_append, n3]; rfl⟩, wf_append f3 (by decide), .inr ⟨_, rfl, b3, by rw [List.append_nil]; exact h3⟩⟩
  have h := apart_list_u16 w B _ t hok hfar hB (by simp)
  simp only [List.map_cons, List.map_nil, v1, v2] at h
  exact h
end Go.Proofs.Ytaeecoiodkbomaa.W
