/-
  Words for what a walk holds: blocks that are known whole, slices that are nil or fill a block, and entries for ApartWords.
-/
import Derived.Test.YtcnidddneiekfaaApartW
import Derived.Test.YtcnidddneiekfaaHeldW
namespace Go.Proofs.Ytcnidddneiekfaa.W
open Go.RowKit
set_option linter.unusedVariables false
/-- A slice that is nil or the beginning of a block, as an entry. -/
theorem Li.ent {w : World} {A : Option Addr} {m g B : Nat} {l r : List Int} (h : Li w A m g l r) (hm : l.length = m) (hw : ∀ x ∈ l, (Lit.int .u16 x).wf = true) (hB : B ≤ g) (hmm : m ≤ 70368744173568) :
    ∃ E : Ent, E.val = .slice A m m ∧ E.Ok w B ∧ (E.a = none ∨ E.a = some g) ∧ (A = none → E.a = none) := by
  rcases h with ⟨h1, h2⟩ | ⟨h1, h2⟩
  · subst h1 h2
    exact ⟨⟨none, 0, 0, l, r⟩, rfl, ⟨⟨Nat.le_refl _, by show 0 ≤ _; omega, hm⟩, hw, .inl ⟨rfl, rfl, rfl⟩⟩, .inl rfl, fun _ => rfl⟩
  · subst h1
    exact ⟨⟨some g, m, m, l, r⟩, rfl, ⟨⟨Nat.le_refl _, by show m ≤ _; omega, hm⟩, hw, .inr ⟨g, rfl, hB, h2⟩⟩, .inr rfl, fun h => by cases h⟩

/-- Two answers that are nil or fill a block, and perhaps a lent list, share no memory. -/
theorem apart2_u16 (w : World) (B : Nat) (A1 A2 : Option Addr) (m1 m2 g1 g2 : Nat) (l1 l2 : List Int) (t : TypeId) (h1 : Li w A1 m1 g1 l1 []) (h2 : Li w A2 m2 g2 l2 []) (n1 : l1.length = m1) (n2 : l2.length = m2)
    (f1 : ∀ x ∈ l1, (Lit.int .u16 x).wf = true) (f2 : ∀ x ∈ l2, (Lit.int .u16 x).wf = true) (b1 : B ≤ g1) (b2 : B ≤ g2) (q1 : m1 ≤ 70368744173568) (q2 : m2 ≤ 70368744173568) (h12 : A1 = none ∨ g1 < g2) (hB : B ≤ w.heap.size) :
    Calls Try.prog 21 #[.slice (some ⟨w.heap.size, 0, none⟩) 2 2] (w.alloc (.cells #[.slice A1 m1 m1, .slice A2 m2 m2] t)) fun e w' => e = .returned (.bool true) ∧ Below B w w' := by
  obtain ⟨E1, v1, o1, a1, z1⟩ := h1.ent (B := B) n1 f1 b1 q1
  obtain ⟨E2, v2, o2, a2, z2⟩ := h2.ent (B := B) n2 f2 b2 q2
  have hfar : [E1, E2].Pairwise Ent.Far := by
    refine List.pairwise_cons.2 ⟨fun e he => ?_, List.pairwise_singleton _ _⟩
    simp only [List.mem_singleton] at he
    subst he
    intro g h3 h4
    rcases a1 with h | h <;> rw [h] at h3
    · cases h3
    · rcases a2 with h' | h' <;> rw [h'] at h4
      · cases h4
      · injection h3; injection h4
        rcases h12 with h0 | h0
        · rw [z1 h0] at h; cases h
        · omega
  have hok : ∀ e ∈ [E1, E2], e.Ok w B := by
    intro e he
    simp only [List.mem_cons, List.not_mem_nil, or_false] at he
    rcases he with rfl | rfl
    · exact o1
    · exact o2
  have h := apart_list_u16 w B _ t hok hfar hB (by simp)
  simp only [List.map_cons, List.map_nil, v1, v2] at h
  exact h
theorem apart3_u16 (w : World) (B : Nat) (A1 A2 : Option Addr) (m1 m2 g1 g2 g m : Nat) (l1 l2 l : List Int) (t : TypeId) (h1 : Li w A1 m1 g1 l1 []) (h2 : Li w A2 m2 g2 l2 []) (h3 : Bk w g (l ++ marks5)) (n1 : l1.length = m1) (n2 : l2.length = m2) (n3 : l.length = m)
    (f1 : ∀ x ∈ l1, (Lit.int .u16 x).wf = true) (f2 : ∀ x ∈ l2, (Lit.int .u16 x).wf = true) (f3 : ∀ x ∈ l, (Lit.int .u16 x).wf = true) (b3 : B ≤ g) (b1 : g < g1) (b2 : g < g2) (q1 : m1 ≤ 70368744173568) (q2 : m2 ≤ 70368744173568) (q3 : m ≤ 70368744173568) (h12 : A1 = none ∨ g1 < g2) (hB : B ≤ w.heap.size) :
    Calls Try.prog 21 #[.slice (some ⟨w.heap.size, 0, none⟩) 3 3] (w.alloc (.cells #[.slice A1 m1 m1, .slice A2 m2 m2, .slice (some ⟨g, 0, none⟩) m (m + 5)] t)) fun e w' => e = .returned (.bool true) ∧ Below B w w' := by
  obtain ⟨E1, v1, o1, a1, z1⟩ := h1.ent (B := B) n1 f1 (by omega) q1
  obtain ⟨E2, v2, o2, a2, z2⟩ := h2.ent (B := B) n2 f2 (by omega) q2
  have hfar : [E1, E2, ⟨some g, m, m + 5, l ++ marks5, []⟩].Pairwise Ent.Far := by
    refine List.pairwise_cons.2 ⟨fun e he => ?_, List.pairwise_cons.2 ⟨fun e he => ?_, List.pairwise_singleton _ _⟩⟩
    · simp only [List.mem_cons, List.not_mem_nil, or_false] at he
      rcases he with rfl | rfl
      · intro q h5 h4
        rcases a1 with h | h <;> rw [h] at h5
        · cases h5
        · rcases a2 with h' | h' <;> rw [h'] at h4
          · cases h4
          · injection h5; injection h4
            rcases h12 with h0 | h0
            · rw [z1 h0] at h; cases h
            · omega
      · intro q h5 h4
        have h4 : some g = some q := h4
        injection h4
        rcases a1 with h | h <;> rw [h] at h5
        · cases h5
        · injection h5; omega
    · simp only [List.mem_singleton] at he
      subst he
      intro q h5 h4
      have h4 : some g = some q := h4
      injection h4
      rcases a2 with h | h <;> rw [h] at h5
      · cases h5
      · injection h5; omega
  have hok : ∀ e ∈ [E1, E2, ⟨some g, m, m + 5, l ++ marks5, []⟩], e.Ok w B := by
    intro e he
    simp only [List.mem_cons, List.not_mem_nil, or_false] at he
    rcases he with rfl | rfl | rfl
    · exact o1
    · exact o2
    · exact ⟨⟨by show m ≤ m + 5; omega, by show m + 5 ≤ _; omega, by show (l ++ marks5).length = m + 5; rw [List.length_append, n3]; rfl⟩, wf_append f3 (by decide), .inr ⟨_, rfl, b3, by rw [List.append_nil]; exact h3⟩⟩
  have h := apart_list_u16 w B _ t hok hfar hB (by simp)
  simp only [List.map_cons, List.map_nil, v1, v2] at h
  exact h
end Go.Proofs.Ytcnidddneiekfaa.W
