/-
  Contract of SpoilAsk: the lists of a request that the call itself has made are written over; nothing else turns.
-/
import Derived.Test.YtojjcmkadmofdaaAskKit
namespace Go.Proofs.Ytojjcmkadmofdaa
open Go.RowKit
set_option linter.unusedVariables false

theorem spoil_li_bool (A : Option Addr) (m g : Nat) (l : List Bool) (w : World) (h : L.Li w A m g l []) (hm : l.length = m) (hc : m ≤ 140737488355328) :
    Calls Try.prog 57 #[.slice A m m] w fun e w' => e = .returned (.tuple #[]) ∧ w.grownBy w' (if A = none then none else some g) ∧ w'.heap.size = w.heap.size := by
  rcases h with ⟨rfl, rfl⟩ | ⟨rfl, hb⟩
  · refine (L.spoil_nil w).mono ?_
    rintro e w' ⟨rfl, rfl⟩
    exact ⟨rfl, World.grownBy.refl _ _, rfl⟩
  · refine (L.spoil_bool g m m l [] w hb hm (Nat.le_refl _) hc).mono ?_
    rintro e w' ⟨rfl, _, h1, h2⟩
    exact ⟨rfl, by simpa using h1, h2⟩
theorem spoil_li_u16 (A : Option Addr) (m g : Nat) (l : List Int) (w : World) (h : W.Li w A m g l []) (hm : l.length = m) (hc : m ≤ 70368744177664) :
    Calls Try.prog 58 #[.slice A m m] w fun e w' => e = .returned (.tuple #[]) ∧ w.grownBy w' (if A = none then none else some g) ∧ w'.heap.size = w.heap.size := by
  rcases h with ⟨rfl, rfl⟩ | ⟨rfl, hb⟩
  · refine (W.spoil_nil w).mono ?_
    rintro e w' ⟨rfl, rfl⟩
    exact ⟨rfl, World.grownBy.refl _ _, rfl⟩
  · refine (W.spoil_u16 g m m l [] w hb hm (Nat.le_refl _) hc).mono ?_
    rintro e w' ⟨rfl, _, h1, h2⟩
    exact ⟨rfl, by simpa using h1, h2⟩
theorem spoil_own_part (v : Value) (base : Nat) (fl : List Int) (w : World) (h : POwn 47 w base v fl) :
    Calls Try.prog 59 #[v] w fun e w' => e = .returned (.tuple #[]) ∧ w.grownBy w' v.ownBlock ∧ w'.heap.size = w.heap.size := by
  rcases h with ⟨rfl, rfl⟩ | ⟨g, n, cap, r, rfl, h2, h3, h4, h5, h6, h7⟩
  · refine (spoil_part_nil w).mono ?_
    rintro e w' ⟨rfl, rfl⟩
    exact ⟨rfl, World.grownBy.refl _ _, rfl⟩
  · refine (spoil_part g n cap (fl ++ r) w h4 (by rw [List.length_append]; exact h7) h5 (by simpa [maxLen] using h6)).mono ?_
    rintro e w' ⟨rfl, h1, h2⟩
    exact ⟨rfl, h1, h2⟩

theorem L.Li.grown {w w' : World} {A : Option Addr} {m g : Nat} {l r : List Bool} (h : L.Li w A m g l r) {row : Option Nat} (hg : w.grownBy w' row) (hne : A = none ∨ some g ≠ row) : L.Li w' A m g l r := by
  rcases h with h | ⟨h1, h2⟩
  · exact .inl h
  · exact .inr ⟨h1, (hg.block g (block_lt h2) (hne.resolve_left (by rw [h1]; simp))).trans h2⟩
theorem W.Li.grown {w w' : World} {A : Option Addr} {m g : Nat} {l r : List Int} (h : W.Li w A m g l r) {row : Option Nat} (hg : w.grownBy w' row) (hne : A = none ∨ some g ≠ row) : W.Li w' A m g l r := by
  rcases h with h | ⟨h1, h2⟩
  · exact .inl h
  · exact .inr ⟨h1, (hg.block g (block_lt h2) (hne.resolve_left (by rw [h1]; simp))).trans h2⟩
theorem POwn.grown {e : TypeId} {w w' : World} {base : Nat} {v : Value} {fl : List Int} (h : POwn e w base v fl) {row : Option Nat} (hg : w.grownBy w' row) (hne : ∀ g, v.ownBlock = some g → some g ≠ row) : POwn e w' base v fl := by
  rcases h with h | ⟨g, n, cap, r, rfl, h2, h3, h4, h5⟩
  · exact .inl h
  · exact .inr ⟨g, n, cap, r, rfl, h2, h3, (hg.block g (block_lt h4) (hne g rfl)).trans h4, h5⟩
/-- Blocks of different types are different ones. -/
theorem blocks_ne {w : World} {g g' : Nat} {cs cs' : Array Value} {t t' : TypeId} {f f' : Nat × Nat} (h : w.heap[g]? = some (.cells cs t f)) (h' : w.heap[g']? = some (.cells cs' t' f')) (hne : t ≠ t') : g ≠ g' := by
  rintro rfl
  rw [h] at h'
  injection h' with h'
  injection h' with _ h2
  exact hne h2

theorem SpoilAsk_any (c a n : Int) (A1 A2 : Option Addr) (m1 m2 g1 g2 B : Nat) (l1 : List Bool) (l2 fl : List Int) (vp : Value) (w : World) (h1 : L.Li w A1 m1 g1 l1 []) (h2 : W.Li w A2 m2 g2 l2 []) (h3 : POwn 47 w B vp fl)
    (n1 : l1.length = m1) (n2 : l2.length = m2) (k1 : m1 ≤ 1000000) (k2 : m2 ≤ 1000000) (q1 : B ≤ g1) (q2 : B ≤ g2) (hB : B ≤ w.heap.size) :
    Calls Try.prog 25 #[.agg #[.int .i64 c, .int .i64 a, .int .i64 n, .slice A1 m1 m1, .slice A2 m2 m2, vp]] w fun e w' => e = .returned (.tuple #[]) ∧ Below B w w' := by
  obtain ⟨A3, n3, c3, hv, e3⟩ : ∃ A3 n3 c3, vp = .slice A3 n3 c3 ∧ vp.ownBlock = A3.map (·.block) := by
    rcases h3 with ⟨rfl, _⟩ | ⟨g, n, cap, r, rfl, _⟩
    · exact ⟨_, _, _, rfl, rfl⟩
    · exact ⟨_, _, _, rfl, rfl⟩
  subst hv
  have H3 : ∀ g, (Value.slice A3 n3 c3).ownBlock = some g → ∃ cs, w.heap[g]? = some (.cells cs 47 (0, 0)) := by
    intro g hg
    rcases h3 with ⟨h, _⟩ | ⟨g', n, cap, r, h, _, _, h4, _⟩
    · rw [h] at hg; cases hg
    · rw [h] at hg; injection hg with hg; subst hg; exact ⟨_, h4⟩
  have e13 : ∀ g, (Value.slice A3 n3 c3).ownBlock = some g → some g ≠ (if A1 = none then none else some g1) := by
    intro g hg
    obtain ⟨cs, hcs⟩ := H3 g hg
    split
    · simp
    · rename_i hA
      rcases h1 with ⟨h, _⟩ | ⟨_, h⟩
      · exact absurd h hA
      · have := blocks_ne hcs h (by decide)
        simpa using this
  have e23 : ∀ g, (Value.slice A3 n3 c3).ownBlock = some g → some g ≠ (if A2 = none then none else some g2) := by
    intro g hg
    obtain ⟨cs, hcs⟩ := H3 g hg
    split
    · simp
    · rename_i hA
      rcases h2 with ⟨h, _⟩ | ⟨_, h⟩
      · exact absurd h hA
      · have := blocks_ne hcs h (by decide)
        simpa using this
  have e12 : A2 = none ∨ some g2 ≠ (if A1 = none then none else some g1) := by
    rcases h2 with ⟨h, _⟩ | ⟨_, h⟩
    · exact .inl h
    · refine .inr ?_
      split
      · simp
      · rename_i hA
        rcases h1 with ⟨h', _⟩ | ⟨_, h'⟩
        · exact absurd h' hA
        · have := blocks_ne h h' (by decide)
          simpa using this
  have r1 : ∀ k, (if A1 = none then none else some g1) = some k → B ≤ k ∧ k < w.heap.size := by
    intro k hk
    split at hk
    · cases hk
    · rename_i hA
      rcases h1 with ⟨h', _⟩ | ⟨_, h'⟩
      · exact absurd h' hA
      · injection hk with hk; subst hk; exact ⟨q1, block_lt h'⟩
  have r2 : ∀ k, (if A2 = none then none else some g2) = some k → B ≤ k ∧ k < w.heap.size := by
    intro k hk
    split at hk
    · cases hk
    · rename_i hA
      rcases h2 with ⟨h', _⟩ | ⟨_, h'⟩
      · exact absurd h' hA
      · injection hk with hk; subst hk; exact ⟨q2, block_lt h'⟩
  have r3 : ∀ k, (Value.slice A3 n3 c3).ownBlock = some k → B ≤ k ∧ k < w.heap.size := h3.block
  generalize hr1 : (if A1 = none then none else some g1) = row1 at *
  generalize hr2 : (if A2 = none then none else some g2) = row2 at *
  generalize hr3 : (Value.slice A3 n3 c3).ownBlock = row3 at *
  have H1 := Lib.hid h1
  have H2 := Lib.hid h2
  have H3' := Lib.hid h3
  have HR1 := Lib.hid hr1
  have HR2 := Lib.hid hr2
  have HR3 := Lib.hid hr3
  clear h1 h2 h3 H3 hr1 hr2 hr3 e3
  go_enter Try.func25, Try.ntmps25
  go_wp2_with fail
  have hbox := Lib.hid (heap_alloc_new w (.cells #[.int .i64 c, .int .i64 a, .int .i64 n, .slice A1 m1 m1, .slice A2 m2 m2, .slice A3 n3 c3] 26))
  have b0 := bel_alloc w (.cells #[.int .i64 c, .int .i64 a, .int .i64 n, .slice A1 m1 m1, .slice A2 m2 m2, .slice A3 n3 c3] 26)
  have bel := (Below.refl B w).alloc hB (.cells #[.int .i64 c, .int .i64 a, .int .i64 n, .slice A1 m1 m1, .slice A2 m2 m2, .slice A3 n3 c3] 26)
  have hs1 : w.heap.size < (w.alloc (.cells #[.int .i64 c, .int .i64 a, .int .i64 n, .slice A1 m1 m1, .slice A2 m2 m2, .slice A3 n3 c3] 26)).heap.size := by simp
  generalize w.alloc (.cells #[.int .i64 c, .int .i64 a, .int .i64 n, .slice A1 m1 m1, .slice A2 m2 m2, .slice A3 n3 c3] 26) = wa at *
  refine (spoil_li_bool A1 m1 g1 l1 wa (H1.out.below b0) n1 (by omega)).mono ?_
  rintro e w1 ⟨rfl, gr, sz⟩
  rw [HR1.out] at gr
  have box1 := Lib.hid ((gr.block w.heap.size hs1 (fun e => by have := r1 _ e.symm; omega)).trans hbox.out)
  have L2 := Lib.hid ((H2.out.below b0).grown gr e12)
  have L3 := Lib.hid ((H3'.out.below b0 (Nat.le_refl _)).grown gr (fun g hg => e13 g (HR3.out ▸ hg)))
  have bel1 := bel.grown gr (by have := bel.size; omega) (fun k e => (r1 k e).1)
  have hs2 : w.heap.size < w1.heap.size := by omega
  clear gr bel hbox hs1 b0 sz H1 H2 H3' e12 e13
  obtain ⟨⟨d10, d11, d12⟩, ⟨d13, d14, d15⟩, d16⟩ := cells6 box1.out
  go_wp2_with fail
  clear d10 d11 d12 d13 d14 d15 d16
  refine (spoil_li_u16 A2 m2 g2 l2 w1 L2.out n2 (by omega)).mono ?_
  rintro e w2 ⟨rfl, gr, sz⟩
  rw [HR2.out] at gr
  have box2 := Lib.hid ((gr.block w.heap.size hs2 (fun e => by have := r2 _ e.symm; omega)).trans box1.out)
  have L4 := Lib.hid (L3.out.grown gr (fun g hg => e23 g (HR3.out ▸ hg)))
  have bel2 := bel1.grown gr (by have := bel1.size; omega) (fun k e => (r2 k e).1)
  have hs3 : w.heap.size < w2.heap.size := by omega
  clear gr bel1 box1 hs2 sz L2 L3 e23
  obtain ⟨⟨d10, d11, d12⟩, ⟨d13, d14, d15⟩, d16⟩ := cells6 box2.out
  go_wp2_with fail
  clear d10 d11 d12 d13 d14 d15 d16
  refine (spoil_own_part _ B fl w2 L4.out).mono ?_
  rintro e w3 ⟨rfl, gr, sz⟩
  rw [HR3.out] at gr
  have bel3 := bel2.grown gr (by have := bel2.size; omega) (fun k e => (r3 k e).1)
  go_wp2
  go_end0
  exact ⟨rfl, bel3⟩
end Go.Proofs.Ytojjcmkadmofdaa
