/-
  The walk of SumsSeal.
-/
import Derived.Test.YtogjamcefiegaaaOpen2
import Derived.Test.YtogjamcefiegaaaApart
namespace Go.Proofs.Ytogjamcefiegaaa
open Go.RowKit
set_option linter.unusedVariables false

theorem below_drewN {B : Nat} {a w : World} (h : Below B a w) (n : Nat) : Below B a (w.drewN n) := ⟨h.os, h.tape, h.output, h.size, h.block⟩
theorem get5 (v0 v1 v2 v3 v4 : Value) (w : World) (t : TypeId) (A : Nat → Option Addr) (n c : Nat → Nat) (h0 : v0 = .slice (A 0) (n 0) (c 0)) (h1 : v1 = .slice (A 1) (n 1) (c 1)) (h2 : v2 = .slice (A 2) (n 2) (c 2)) (h3 : v3 = .slice (A 3) (n 3) (c 3)) (h4 : v4 = .slice (A 4) (n 4) (c 4)) :
    ∀ k, k < 5 → (w.alloc (.cells #[v0, v1, v2, v3, v4] t)).cell? ⟨w.heap.size, k, none⟩ = some (.slice (A k) (n k) (c k)) := by
  intro k hk
  rw [World.cell?_alloc_at _ _ _ _ rfl]
  subst h0 h1 h2 h3 h4
  rcases k with _ | _ | _ | _ | _ | k <;> first | rfl | omega

/-- Block g is just the row l. (A name: so the walk does not rewrite by it.) -/
def Bk (w : World) (g : Nat) (l : List Int) : Prop := w.heap[g]? = some (.cells (blk .u8 l) 5 (0, 0))
theorem Bk.below {w w' : World} {g : Nat} {l : List Int} (h : Bk w g l) (hb : Below w.heap.size w w') : Bk w' g l := (hb.block g (block_lt h)).trans h
theorem Bk.lt {w : World} {g : Nat} {l : List Int} (h : Bk w g l) : g < w.heap.size := block_lt h
theorem Bk.drewN {w : World} {g : Nat} {l : List Int} (h : Bk w g l) (n : Nat) : Bk (w.drewN n) g l := h
theorem Bk.row {w : World} {g : Nat} {l : List Int} (h : Bk w g l) (xs : List Int) (hw : ∀ x ∈ xs, (Lit.int .u8 x).wf = true) (hp : xs <+: l) : Row .u8 w w.heap.size (some ⟨g, 0, none⟩) xs :=
  (Row.of_block h xs hw hp).more h.lt
/-- A slice that is nil, or the beginning of block g. -/
def Li (w : World) (A : Option Addr) (m g : Nat) (l r : List Int) : Prop := A = none ∧ m = 0 ∨ A = some ⟨g, 0, none⟩ ∧ Bk w g (l ++ r)
theorem Li.below {w w' : World} {A : Option Addr} {m g : Nat} {l r : List Int} (h : Li w A m g l r) (hb : Below w.heap.size w w') : Li w' A m g l r := by
  rcases h with h | ⟨h1, h2⟩
  · exact .inl h
  · exact .inr ⟨h1, h2.below hb⟩
theorem Li.row {w : World} {A : Option Addr} {m g : Nat} {l r : List Int} (h : Li w A m g l r) (hm : l.length = m) (hw : ∀ x ∈ l, (Lit.int .u8 x).wf = true) : Row .u8 w w.heap.size A l := by
  rcases h with ⟨h1, h2⟩ | ⟨h1, h2⟩
  · have : l = [] := List.eq_nil_of_length_eq_zero (by omega)
    subst this
    exact Row.nil _ _ _ _
  · subst h1
    exact h2.row l hw (List.prefix_append _ _)
theorem bel_drewN (w : World) (n : Nat) : Below w.heap.size w (w.drewN n) := ⟨rfl, rfl, rfl, Nat.le_refl _, fun _ _ => rfl⟩

theorem opened16_le (xs : List Int) : (opened16 xs).length ≤ xs.length := by
  unfold opened16
  split
  · simp
  · split
    · simp
    · simp
theorem opened32_le (xs : List Int) : (opened32 xs).length ≤ xs.length := by
  unfold opened32
  split
  · simp
  · split
    · simp
    · simp
/-- A slice that is nil or the beginning of a block, as an entry. -/
theorem Li.ent {w : World} {A : Option Addr} {m g B : Nat} {l r : List Int} (h : Li w A m g l r) (hm : l.length = m) (hw : ∀ x ∈ l, (Lit.int .u8 x).wf = true) (hB : B ≤ g) (hmm : m ≤ 140737488351232) :
    ∃ E : Ent, E.val = .slice A m m ∧ E.Ok w B ∧ (E.a = none ∨ E.a = some g) ∧ (A = none → E.a = none) := by
  rcases h with ⟨h1, h2⟩ | ⟨h1, h2⟩
  · subst h1 h2
    exact ⟨⟨none, 0, 0, l, r⟩, rfl, ⟨⟨Nat.le_refl _, by show 0 ≤ _; omega, hm⟩, hw, .inl ⟨rfl, rfl, rfl⟩⟩, .inl rfl, fun _ => rfl⟩
  · subst h1
    exact ⟨⟨some g, m, m, l, r⟩, rfl, ⟨⟨Nat.le_refl _, by show m ≤ _; omega, hm⟩, hw, .inr ⟨g, rfl, hB, h2⟩⟩, .inr rfl, fun h => by cases h⟩

set_option maxHeartbeats 4000000 in
theorem walk_SumsSeal (a0 : Option Addr) (l0 c0 : Nat) (x0 : List Int) (w : World) (w0 : Row .u8 w w.heap.size a0 x0) (n0 : x0.length = l0) (s0 : l0 ≤ c0) (m0 : c0 ≤ 140737488351232) :
    Calls Try.prog 4 #[.slice a0 l0 c0] w fun e w' => e = .returned (.bool true) ∧ Below w.heap.size w w' := by
  have hn := Lib.hid n0
  clear n0
  have k1 : Bk (w.alloc (.cells (blk .u8 (x0 ++ marks5)) 5)) w.heap.size (x0 ++ marks5) := heap_alloc_new w _
  have bel1 : Below w.heap.size w (w.alloc (.cells (blk .u8 (x0 ++ marks5)) 5)) := (Below.refl _ _).alloc (Nat.le_refl _) _
  have hwf := w0.1
  go_enter Try.func4, Try.ntmps4
  go_wp2_with fail
  refine (lent_u8 _ _ _ x0 _ w0 hn.out (by omega)).mono ?_
  rintro e w' ⟨rfl, rfl⟩
  generalize w.alloc (.cells (blk .u8 (x0 ++ marks5)) 5) = w1 at *
  have hs1 := k1.lt
  -- p
  go_wp2_with fail
  refine (Seal_16 _ _ _ x0 _ (k1.row x0 hwf (List.prefix_append _ _)) hn.out (by omega)).mono ?_
  rintro e w2 ⟨rfl, hp2, b2⟩
  have p2 : Bk w2 w1.heap.size (sealed16 x0) := hp2
  clear hp2
  have bel2 := bel1.trans (b2.mono bel1.size)
  have k2 := k1.below b2
  have hs2 := p2.lt
  clear b2
  -- q
  go_wp2_with fail
  refine (Seal_32 _ _ _ x0 _ (k2.row x0 hwf (List.prefix_append _ _)) hn.out (by omega)).mono ?_
  rintro e w3 ⟨rfl, hq3, b3⟩
  have q3 : Bk w3 w2.heap.size (sealed32 x0) := hq3
  clear hq3
  have bel3 := bel2.trans (b3.mono bel2.size)
  have k3 := k2.below b3
  have p3 := p2.below b3
  have hs3 := q3.lt
  clear b3 k1 k2 p2
  -- x
  go_wp2_with fail
  refine (Open_any_16 _ _ _ x0 _ (k3.row x0 hwf (List.prefix_append _ _)) hn.out (by omega) (by omega)).mono ?_
  rintro e w4 ⟨Ax, mx, rx, rfl, hmx, hlx, b4⟩
  have x4 : Li w4 Ax mx w3.heap.size (opened16 x0) rx := hlx
  have hmx' := Lib.hid hmx
  have x34 : Hid (Ax = none ∨ w3.heap.size < w4.heap.size) := by
    rcases hlx with ⟨h1, _⟩ | ⟨_, h2⟩
    · exact .inl h1
    · exact .inr (block_lt h2)
  clear hlx hmx
  have bel4 := bel3.trans (b4.mono bel3.size)
  have k4 := k3.below b4
  have p4 := p3.below b4
  have q4 := q3.below b4
  have hs4 := b4.size
  clear b4 k3 p3 q3
  -- y
  go_wp2_with fail
  refine (Open_any_32 _ _ _ x0 _ (k4.row x0 hwf (List.prefix_append _ _)) hn.out (by omega) (by omega)).mono ?_
  rintro e w5 ⟨Ay, my, ry, rfl, hmy, hly, b5⟩
  have y5 : Li w5 Ay my w4.heap.size (opened32 x0) ry := hly
  have hmy' := Lib.hid hmy
  clear hly hmy
  have bel5 := bel4.trans (b5.mono bel4.size)
  have k5 := k4.below b5
  have p5 := p4.below b5
  have q5 := q4.below b5
  have x5 := x4.below b5
  have hs5 := b5.size
  clear b5 k4 p4 q4 x4
  -- u
  go_wp2_with fail
  refine (refOpen_any_16 _ _ _ x0 _ ((w0.below bel5).more bel5.size) hn.out s0 (by omega)).mono ?_
  rintro e w6 ⟨vu, rfl, ou6, b6⟩
  have bel6 := bel5.trans (b6.mono bel5.size)
  have k6 := k5.below b6
  have p6 := p5.below b6
  have q6 := q5.below b6
  have x6 := x5.below b6
  have y6 := y5.below b6
  have hs6 := b6.size
  clear b6 k5 p5 q5 x5 y5
  -- v
  go_wp2_with fail
  refine (refOpen_any_32 _ _ _ x0 _ ((w0.below bel6).more bel6.size) hn.out s0 (by omega)).mono ?_
  rintro e w7 ⟨vv, rfl, ov7, b7⟩
  have bel7 := bel6.trans (b7.mono bel6.size)
  have k7 := k6.below b7
  have p7 := p6.below b7
  have q7 := q6.below b7
  have x7 := x6.below b7
  have y7 := y6.below b7
  have ou7 := ou6.below b7 (Nat.le_refl _)
  have hs7 := b7.size
  clear b7 k6 p6 q6 x6 y6 ou6
  -- the seals against the document's
  go_wp2_with fail
  refine (refSeal_16 _ _ _ x0 _ ((w0.below bel7).more bel7.size) hn.out (by omega)).mono ?_
  rintro e w8 ⟨v8, rfl, o8, b8⟩
  have bel8 := bel7.trans (b8.mono bel7.size)
  have k8 := k7.below b8
  have p8 := p7.below b8
  have q8 := q7.below b8
  have x8 := x7.below b8
  have y8 := y7.below b8
  have ou8 := ou7.below b8 (Nat.le_refl _)
  have ov8 := ov7.below b8 (Nat.le_refl _)
  have hs8 := b8.size
  clear b8 k7 p7 q7 x7 y7 ou7 ov7
  obtain ⟨A8, c8, rfl, r8, _, _⟩ := o8.row (sealed16_wf hwf)
  have hl16 : (sealed16 x0).length = l0 + 2 := by rw [sealed16_length, hn.out]
  have HL16 := Lib.hid hl16
  rw [hl16]
  clear hl16
  go_wp2_with fail
  refine (same_yes_u8 _ _ _ _ _ (sealed16 x0) _ _ _ (p8.row _ (sealed16_wf hwf) (List.prefix_refl _)) r8 HL16.out (by omega)).mono ?_
  rintro e w9 ⟨rfl, m9, rfl⟩
  have bel9 := below_drewN bel8 m9
  have k9 := k8.drewN m9
  have p9 := p8.drewN m9
  have q9 := q8.drewN m9
  have x9 := x8.below (bel_drewN w8 m9)
  have y9 := y8.below (bel_drewN w8 m9)
  have ou9 := ou8.drewN m9
  have ov9 := ov8.drewN m9
  have hs9 : w7.heap.size ≤ (w8.drewN m9).heap.size := hs8
  clear o8 r8 k8 p8 q8 x8 y8 ou8 ov8 hs8 bel8
  generalize w8.drewN m9 = w9 at *
  go_wp2_with fail
  refine (refSeal_32 _ _ _ x0 _ ((w0.below bel9).more bel9.size) hn.out (by omega)).mono ?_
  rintro e w10 ⟨v10, rfl, o10, b10⟩
  have bel10 := bel9.trans (b10.mono bel9.size)
  have k10 := k9.below b10
  have p10 := p9.below b10
  have q10 := q9.below b10
  have x10 := x9.below b10
  have y10 := y9.below b10
  have ou10 := ou9.below b10 (Nat.le_refl _)
  have ov10 := ov9.below b10 (Nat.le_refl _)
  have hs10 := b10.size
  clear b10 k9 p9 q9 x9 y9 ou9 ov9
  obtain ⟨A10, c10, rfl, r10, _, _⟩ := o10.row (sealed32_wf hwf)
  have hl32 : (sealed32 x0).length = l0 + 4 := by rw [sealed32_length, hn.out]
  have HL32 := Lib.hid hl32
  rw [hl32]
  clear hl32
  go_wp2_with fail
  refine (same_yes_u8 _ _ _ _ _ (sealed32 x0) _ _ _ (q10.row _ (sealed32_wf hwf) (List.prefix_refl _)) r10 HL32.out (by omega)).mono ?_
  rintro e w11 ⟨rfl, m11, rfl⟩
  have bel11 := below_drewN bel10 m11
  have k11 := k10.drewN m11
  have p11 := p10.drewN m11
  have q11 := q10.drewN m11
  have x11 := x10.below (bel_drewN w10 m11)
  have y11 := y10.below (bel_drewN w10 m11)
  have ou11 := ou10.drewN m11
  have ov11 := ov10.drewN m11
  have hs11 : w9.heap.size ≤ (w10.drewN m11).heap.size := hs10
  clear o10 r10 k10 p10 q10 x10 y10 ou10 ov10 hs10 bel10
  generalize w10.drewN m11 = w11 at *
  -- what was opened against the document's
  obtain ⟨Au, cu, rfl, ru, _, _⟩ := ou11.row (opened16_wf hwf)
  obtain ⟨Av, cv, rfl, rv, _, _⟩ := ov11.row (opened32_wf hwf)
  rw [hmx'.out, hmy'.out]
  have hmx2 : mx ≤ 140737488351232 := by
    have h1 := opened16_le x0
    have h2 := hmx'.out
    have h3 := hn.out
    omega
  have hmy2 : my ≤ 140737488351232 := by
    have h1 := opened32_le x0
    have h2 := hmy'.out
    have h3 := hn.out
    omega
  go_wp2_with fail
  refine (same_yes_u8 _ _ _ _ _ (opened16 x0) _ _ _ (x11.row hmx'.out (opened16_wf hwf)) ru hmx'.out (by omega)).mono ?_
  rintro e w12 ⟨rfl, m12, rfl⟩
  go_wp2_with fail
  refine (same_yes_u8 _ _ _ _ _ (opened32 x0) _ _ _ ((y11.row hmy'.out (opened32_wf hwf)).drewN _) (rv.drewN _) hmy'.out (by omega)).mono ?_
  rintro e w13 ⟨rfl, m13, rfl⟩
  rw [World.drewN_drewN]
  have bel13 := below_drewN bel11 (m12 + m13)
  have k13 := k11.drewN (m12 + m13)
  have p13 := p11.drewN (m12 + m13)
  have q13 := q11.drewN (m12 + m13)
  have x13 := x11.below (bel_drewN w11 (m12 + m13))
  have y13 := y11.below (bel_drewN w11 (m12 + m13))
  have hs13 : w9.heap.size ≤ (w11.drewN (m12 + m13)).heap.size := hs11
  clear k11 p11 q11 x11 y11 ou11 ov11 hs11 bel11 ru rv
  generalize w11.drewN (m12 + m13) = w13 at *
  -- the lent list
  go_wp2_with fail
  refine (kept_u8 _ _ _ _ x0 _ _ ((w0.below bel13).more bel13.size) hn.out (by omega) k13).mono ?_
  rintro e w14 ⟨rfl, m14, rfl⟩
  have bel14 := below_drewN bel13 m14
  have k14 := k13.drewN m14
  have p14 := p13.drewN m14
  have q14 := q13.drewN m14
  have x14 := x13.below (bel_drewN w13 m14)
  have y14 := y13.below (bel_drewN w13 m14)
  have hs14 : w9.heap.size ≤ (w13.drewN m14).heap.size := hs13
  clear k13 p13 q13 x13 y13 hs13 bel13
  generalize w13.drewN m14 = w14 at *
  obtain ⟨Ex, hEx, okx, hax, hnx⟩ := x14.ent (B := w.heap.size) hmx'.out (opened16_wf hwf) (by omega) hmx2
  obtain ⟨Ey, hEy, oky, hay, hny⟩ := y14.ent (B := w.heap.size) hmy'.out (opened32_wf hwf) (by omega) hmy2
  have hfar : [(⟨some w1.heap.size, l0 + 2, l0 + 2, sealed16 x0, []⟩ : Ent), ⟨some w2.heap.size, l0 + 4, l0 + 4, sealed32 x0, []⟩, Ex, Ey, ⟨some w.heap.size, l0, l0 + 5, x0 ++ marks5, []⟩].Pairwise Ent.Far := by
    have hxy : Ex.Far Ey := by
      intro g h1 h2
      rcases hax with h | h
      · rw [h] at h1; cases h1
      · rcases hay with h' | h'
        · rw [h'] at h2; cases h2
        · rw [h] at h1; rw [h'] at h2
          injection h1; injection h2
          rcases x34.out with h0 | h0
          · rw [hnx h0] at h; cases h
          · omega
    have e1 : ∀ (g : Nat) (n c : Nat) (l r : List Int), g < w3.heap.size → Ent.Far ⟨some g, n, c, l, r⟩ Ex := by
      intro g n c l r hg q h1 h2
      have h1 : some g = some q := h1
      injection h1
      rcases hax with h | h <;> rw [h] at h2
      · cases h2
      · injection h2; omega
    have e2 : ∀ (g : Nat) (n c : Nat) (l r : List Int), g < w4.heap.size → Ent.Far ⟨some g, n, c, l, r⟩ Ey := by
      intro g n c l r hg q h1 h2
      have h1 : some g = some q := h1
      injection h1
      rcases hay with h | h <;> rw [h] at h2
      · cases h2
      · injection h2; omega
    have flip : ∀ {e e' : Ent}, Ent.Far e e' → Ent.Far e' e := fun h g h1 h2 => h g h2 h1
    have e3 : ∀ (g g' : Nat) (n c : Nat) (l r : List Int) (n' c' : Nat) (l' r' : List Int), g ≠ g' → Ent.Far ⟨some g, n, c, l, r⟩ ⟨some g', n', c', l', r'⟩ := by
      intro g g' n c l r n' c' l' r' hne q h1 h2
      have h1 : some g = some q := h1
      have h2 : some g' = some q := h2
      injection h1; injection h2; omega
    refine List.pairwise_cons.2 ⟨fun e he => ?_, List.pairwise_cons.2 ⟨fun e he => ?_, List.pairwise_cons.2 ⟨fun e he => ?_, List.pairwise_cons.2 ⟨fun e he => ?_, List.pairwise_singleton _ _⟩⟩⟩⟩
    · simp only [List.mem_cons, List.not_mem_nil, or_false] at he
      rcases he with rfl | rfl | rfl | rfl
      · exact e3 _ _ _ _ _ _ _ _ _ _ (by omega)
      · exact e1 _ _ _ _ _ (by omega)
      · exact e2 _ _ _ _ _ (by omega)
      · exact e3 _ _ _ _ _ _ _ _ _ _ (by omega)
    · simp only [List.mem_cons, List.not_mem_nil, or_false] at he
      rcases he with rfl | rfl | rfl
      · exact e1 _ _ _ _ _ (by omega)
      · exact e2 _ _ _ _ _ (by omega)
      · exact e3 _ _ _ _ _ _ _ _ _ _ (by omega)
    · simp only [List.mem_cons, List.not_mem_nil, or_false] at he
      rcases he with rfl | rfl
      · exact hxy
      · exact flip (e1 _ _ _ _ _ (by omega))
    · simp only [List.mem_cons, List.not_mem_nil, or_false] at he
      subst he
      exact flip (e2 _ _ _ _ _ (by omega))
  have hok : ∀ e ∈ [(⟨some w1.heap.size, l0 + 2, l0 + 2, sealed16 x0, []⟩ : Ent), ⟨some w2.heap.size, l0 + 4, l0 + 4, sealed32 x0, []⟩, Ex, Ey, ⟨some w.heap.size, l0, l0 + 5, x0 ++ marks5, []⟩], e.Ok w14 w.heap.size := by
    intro e he
    simp only [List.mem_cons, List.not_mem_nil, or_false] at he
    rcases he with rfl | rfl | rfl | rfl | rfl
    · exact ⟨⟨Nat.le_refl _, by show l0 + 2 ≤ _; omega, HL16.out⟩, sealed16_wf hwf, .inr ⟨_, rfl, by omega, by rw [List.append_nil]; exact p14⟩⟩
    · exact ⟨⟨Nat.le_refl _, by show l0 + 4 ≤ _; omega, HL32.out⟩, sealed32_wf hwf, .inr ⟨_, rfl, by omega, by rw [List.append_nil]; exact q14⟩⟩
    · exact okx
    · exact oky
    · exact ⟨⟨by show l0 ≤ l0 + 5; omega, by show l0 + 5 ≤ _; omega, by show (x0 ++ marks5).length = l0 + 5; rw [List.length_append, hn.out]; rfl⟩, wf_append hwf (by decide), .inr ⟨_, rfl, Nat.le_refl _, by rw [List.append_nil]; exact k14⟩⟩
  have hap : Calls Try.prog 28 #[.slice (some ⟨w14.heap.size, 0, none⟩) 5 5] (w14.alloc (.cells #[.slice (some ⟨w1.heap.size, 0, none⟩) (l0 + 2) (l0 + 2), .slice (some ⟨w2.heap.size, 0, none⟩) (l0 + 4) (l0 + 4), .slice Ax mx mx, .slice Ay my my, .slice (some ⟨w.heap.size, 0, none⟩) l0 (l0 + 5)] 22)) fun e w' => e = .returned (.bool true) ∧ Below w.heap.size w14 w' := by
    have h := apart_list_u8 w14 w.heap.size _ 22 hok hfar bel14.size (by simp)
    simp only [List.map_cons, List.map_nil, hEx, hEy] at h
    exact h
  have HAP := Lib.hid hap
  clear hap hok hfar hEx hEy okx oky hax hay hnx hny x14 y14 p14 q14 k14
  go_wp2_with fail
  refine HAP.out.mono ?_
  rintro e w15 ⟨rfl, bel15⟩
  go_wp2
  go_ret
  exact ⟨rfl, bel14.trans bel15⟩
end Go.Proofs.Ytogjamcefiegaaa
