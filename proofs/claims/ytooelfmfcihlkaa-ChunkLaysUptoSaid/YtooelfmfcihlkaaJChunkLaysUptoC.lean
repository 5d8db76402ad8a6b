/-
  The statement ChunkLays of outstationlaw13 holds in its narrowed form: for every input that can be read and whose bulk is at most 1048576, the call returns true, and each argument reads as it did.
-/
import Derived.Test.YtooelfmfcihlkaaJChunkLaysUptoB
import Derived.Test.YtooelfmfcihlkaaJChunkLaysUptoA
import Derived.Test.YtooelfmfcihlkaaRows
import Derived.JoinedCond
import Derived.Deep.CondSized
namespace Go.Proofs.Ytooelfmfcihlkaa
open Go.RowKit
set_option linter.unusedVariables false

/-- A list of the call's own is written over. -/
theorem spoil_kown (v : Value) (base : Nat) (xs : List Int) (w : World) (h : KOwn .u8 5 w base v xs) :
    Calls Try.prog 30 #[v] w fun e w' => e = .returned (.tuple #[]) ∧ w.grownBy w' v.ownBlock ∧ w'.heap.size = w.heap.size := by
  rcases h with ⟨rfl, rfl⟩ | ⟨g, n, cap, r, rfl, h2, h3, h4, h5, h6, h7, h8⟩
  · exact (spoil_nil w).mono fun e w' ⟨he, hw⟩ => by subst hw; exact ⟨he, World.grownBy.refl _ _, rfl⟩
  · simp only [maxLen] at h6
    exact (spoilK_u8 g 0 n cap [] (xs ++ r) [] w (by rw [List.nil_append, List.append_nil]; exact h4) rfl (by rw [List.length_append]; exact h7) h5 h6).mono fun e w' ⟨he, _, hg, hz⟩ => ⟨he, hg, hz⟩
/-- A list of the call's own, as an entry. -/
theorem KOwn.entK {w : World} {base B : Nat} {v : Value} {xs : List Int} (h : KOwn .u8 5 w base v xs) (hw : ∀ x ∈ xs, (Lit.int .u8 x).wf = true) (hm : xs.length ≤ 140737488355328) (hB : B ≤ base) :
    ∃ E : EntK, E.val = v ∧ E.Ok w B ∧ ∀ g, E.a = some g → base ≤ g := by
  rcases h with ⟨rfl, rfl⟩ | ⟨g, n, cap, r, rfl, h2, h3, h4, h5, h6, h7, h8⟩
  · exact ⟨⟨none, [], 0, 0, [], []⟩, rfl, ⟨⟨Nat.le_refl _, ⟨by show 0 ≤ _; omega, by show 0 ≤ _; omega⟩, rfl⟩, by simp, .inl ⟨rfl, rfl, rfl⟩⟩, fun g h => by cases h⟩
  · simp only [maxLen] at h6
    refine ⟨⟨some g, [], n, cap, xs ++ r, []⟩, rfl, ⟨⟨h5, ⟨h6, by show n ≤ _; omega⟩, by show (xs ++ r).length = cap; rw [List.length_append]; exact h7⟩, wf_append hw h8, .inr ⟨g, rfl, by omega, by rw [List.append_nil, List.nil_append]; exact h4⟩⟩, fun g' e => ?_⟩
    have e : some g = some g' := e
    injection e with e
    omega
/-- The entry's block is the list's. -/
theorem EntK.own_of {E : EntK} {v : Value} (h : E.val = v) {g : Nat} (ha : E.a = some g) : v.ownBlock = some g := by
  rw [← h]
  simp [EntK.val, EntK.adr, ha, Value.ownBlock]
/-- A list that was lent, as an entry. -/
theorem lent_entK {w : World} {B g m : Nat} {l : List Int} (h : w.heap[g]? = some (.cells (blk .u8 (l ++ marks5)) 5 (0, 0))) (hw : ∀ x ∈ l, (Lit.int .u8 x).wf = true) (hm : l.length = m) (hb : m ≤ 140737488351232) (hB : B ≤ g) :
    ∃ E : EntK, E.val = .slice (some ⟨g, 0, none⟩) m (m + 5) ∧ E.Ok w B ∧ ∀ k, E.a = some k → k = g := by
  refine ⟨⟨some g, [], m, m + 5, l ++ marks5, []⟩, rfl, ⟨⟨by show m ≤ m + 5; omega, ⟨by show m + 5 ≤ _; omega, by show m ≤ _; omega⟩, by show (l ++ marks5).length = m + 5; rw [List.length_append, hm]; rfl⟩, wf_append hw (by decide), .inr ⟨g, rfl, hB, by rw [List.append_nil, List.nil_append]; exact h⟩⟩, fun k e => ?_⟩
  have e : some g = some k := e
  injection e with e
  exact e.symm
end Go.Proofs.Ytooelfmfcihlkaa
namespace Go.Proofs.Ytooelfmfcihlkaa
open Go.RowKit
set_option linter.unusedVariables false
set_option maxRecDepth 100000

/-- A list of the call's own whose block lies between two places. -/
structure KIn (w : World) (lo_ hi : Nat) (v : Value) (xs : List Int) : Prop where
  own : KOwn .u8 5 w lo_ v xs
  lt : ∀ g, v.ownBlock = some g → g < hi
theorem KIn.below {w w' : World} {a b : Nat} {v : Value} {xs : List Int} (h : KIn w a b v xs) (hb : Below w.heap.size w w') : KIn w' a b v xs := ⟨h.own.below hb (Nat.le_refl _), h.lt⟩
theorem KIn.of {w : World} {a : Nat} {v : Value} {xs : List Int} (h : KOwn .u8 5 w a v xs) : KIn w a w.heap.size v xs := ⟨h, fun g e => (h.block g e).2⟩
theorem KIn.ent {w : World} {a b B : Nat} {v : Value} {xs : List Int} (h : KIn w a b v xs) (hw : ∀ x ∈ xs, (Lit.int .u8 x).wf = true) (hm : xs.length ≤ 2000) (hB : B ≤ a) : ∃ E : EntK, E.val = v ∧ E.Ok w B ∧ ∀ g, E.a = some g → a ≤ g ∧ g < b := by
  obtain ⟨E, h1, h2, h3⟩ := h.own.entK hw (by omega) hB
  exact ⟨E, h1, h2, fun g e => ⟨h3 g e, h.lt g (EntK.own_of h1 e)⟩⟩
theorem far_of {E F : EntK} {a b c d : Nat} (hE : ∀ g, E.a = some g → a ≤ g ∧ g < b) (hF : ∀ g, F.a = some g → c ≤ g ∧ g < d) (h : b ≤ c ∨ d ≤ a) : EntK.Far E F := fun g h1 h2 => by
  have := hE g h1
  have := hF g h2
  omega
/-- Payload, chunk and what was lent share no memory. -/
theorem apart3_ck {w : World} {g m a1 b1 a2 b2 : Nat} {l xs ys : List Int} {v u : Value} {t : TypeId} (h0 : Bk w g (l ++ marks5)) (hw0 : ∀ x ∈ l, (Lit.int .u8 x).wf = true) (hm0 : l.length = m) (hb0 : m ≤ 140737488351232)
    (h1 : KIn w a1 b1 v xs) (hw1 : ∀ x ∈ xs, (Lit.int .u8 x).wf = true) (hl1 : xs.length ≤ 2000) (h2 : KIn w a2 b2 u ys) (hw2 : ∀ x ∈ ys, (Lit.int .u8 x).wf = true) (hl2 : ys.length ≤ 2000) (hg : g < a1) (hab : b1 ≤ a2) (ha : a1 ≤ a2) :
    Calls Try.prog 19 #[.slice (some ⟨w.heap.size, 0, none⟩) 3 3] (w.alloc (.cells #[v, u, .slice (some ⟨g, 0, none⟩) m (m + 5)] t)) fun e w' => e = .returned (.bool true) ∧ Below g w w' := by
  obtain ⟨E0, e0, k0, n0⟩ := lent_entK (B := g) h0 hw0 hm0 hb0 (Nat.le_refl _)
  obtain ⟨E1, e1, k1, n1⟩ := h1.ent hw1 hl1 (B := g) (by omega)
  obtain ⟨E2, e2, k2, n2⟩ := h2.ent hw2 hl2 (B := g) (by omega)
  have n0' : ∀ k, E0.a = some k → g ≤ k ∧ k < g + 1 := fun k e => by rw [n0 k e]; omega
  have hfar : [E1, E2, E0].Pairwise EntK.Far := by
    refine List.pairwise_cons.2 ⟨fun e he => ?_, List.pairwise_cons.2 ⟨fun e he => ?_, List.pairwise_singleton _ _⟩⟩
    · simp only [List.mem_cons, List.not_mem_nil, or_false] at he
      rcases he with rfl | rfl
      · exact far_of n1 n2 (.inl hab)
      · exact far_of n1 n0' (.inr (by omega))
    · simp only [List.mem_cons, List.not_mem_nil, or_false] at he
      subst he
      exact far_of n2 n0' (.inr (by omega))
  have hok : ∀ e ∈ [E1, E2, E0], e.Ok w g := by
    intro e he
    simp only [List.mem_cons, List.not_mem_nil, or_false] at he
    rcases he with rfl | rfl | rfl
    · exact k1
    · exact k2
    · exact k0
  have h := apartK_list_u8 w g _ t hok hfar (Nat.le_of_lt h0.lt) (by simp)
  simp only [List.map_cons, List.map_nil, e0, e1, e2] at h
  exact h
/-- The first of what was scanned, payload, chunk and what was lent share no memory. -/
theorem apart4_ck {w : World} {g m a1 b1 a2 b2 a3 b3 : Nat} {l xs ys zs : List Int} {v u s : Value} {t : TypeId} (h0 : Bk w g (l ++ marks5)) (hw0 : ∀ x ∈ l, (Lit.int .u8 x).wf = true) (hm0 : l.length = m) (hb0 : m ≤ 140737488351232)
    (h1 : KIn w a1 b1 v xs) (hw1 : ∀ x ∈ xs, (Lit.int .u8 x).wf = true) (hl1 : xs.length ≤ 2000) (h2 : KIn w a2 b2 u ys) (hw2 : ∀ x ∈ ys, (Lit.int .u8 x).wf = true) (hl2 : ys.length ≤ 2000) (h3 : KIn w a3 b3 s zs) (hw3 : ∀ x ∈ zs, (Lit.int .u8 x).wf = true) (hl3 : zs.length ≤ 2000) (hg : g < a1) (hab : b1 ≤ a2) (ha : a1 ≤ a2) (hab2 : b2 ≤ a3) (ha2 : a2 ≤ a3) :
    Calls Try.prog 19 #[.slice (some ⟨w.heap.size, 0, none⟩) 4 4] (w.alloc (.cells #[s, u, v, .slice (some ⟨g, 0, none⟩) m (m + 5)] t)) fun e w' => e = .returned (.bool true) ∧ Below g w w' := by
  obtain ⟨E0, e0, k0, n0⟩ := lent_entK (B := g) h0 hw0 hm0 hb0 (Nat.le_refl _)
  obtain ⟨E1, e1, k1, n1⟩ := h1.ent hw1 hl1 (B := g) (by omega)
  obtain ⟨E2, e2, k2, n2⟩ := h2.ent hw2 hl2 (B := g) (by omega)
  obtain ⟨E3, e3, k3, n3⟩ := h3.ent hw3 hl3 (B := g) (by omega)
  have n0' : ∀ k, E0.a = some k → g ≤ k ∧ k < g + 1 := fun k e => by rw [n0 k e]; omega
  have hb12 : b1 ≤ a3 := by omega
  have hfar : [E3, E2, E1, E0].Pairwise EntK.Far := by
    refine List.pairwise_cons.2 ⟨fun e he => ?_, List.pairwise_cons.2 ⟨fun e he => ?_, List.pairwise_cons.2 ⟨fun e he => ?_, List.pairwise_singleton _ _⟩⟩⟩
    · simp only [List.mem_cons, List.not_mem_nil, or_false] at he
      rcases he with rfl | rfl | rfl
      · exact far_of n3 n2 (.inr hab2)
      · exact far_of n3 n1 (.inr hb12)
      · exact far_of n3 n0' (.inr (by omega))
    · simp only [List.mem_cons, List.not_mem_nil, or_false] at he
      rcases he with rfl | rfl
      · exact far_of n2 n1 (.inr hab)
      · exact far_of n2 n0' (.inr (by omega))
    · simp only [List.mem_cons, List.not_mem_nil, or_false] at he
      subst he
      exact far_of n1 n0' (.inr (by omega))
  have hok : ∀ e ∈ [E3, E2, E1, E0], e.Ok w g := by
    intro e he
    simp only [List.mem_cons, List.not_mem_nil, or_false] at he
    rcases he with rfl | rfl | rfl | rfl
    · exact k3
    · exact k2
    · exact k1
    · exact k0
  have h := apartK_list_u8 w g _ t hok hfar (Nat.le_of_lt h0.lt) (by simp)
  simp only [List.map_cons, List.map_nil, e0, e1, e2, e3] at h
  exact h
theorem KIn.drewN {w : World} {a b : Nat} {v : Value} {xs : List Int} (h : KIn w a b v xs) (n : Nat) : KIn (w.drewN n) a b v xs := ⟨h.own.drewN n, h.lt⟩

set_option maxHeartbeats 8000000 in
theorem walk_ChunkLays (A : Option Addr) (n c : Nat) (x : List Int) (w : World) (hr : Row .u8 w w.heap.size A x) (hn : x.length = n) (hc : n ≤ c) (hm : c ≤ 140737488351232) (hfew : n ≤ 1073741824) :
    Calls Try.prog 3 #[.slice A n c] w fun e w' => e = .returned (.bool true) ∧ Below w.heap.size w w' := by
  have HR := Lib.hid hr
  have HN := Lib.hid hn
  have hwf := Lib.hid hr.1
  obtain ⟨P, hP⟩ : ∃ P, Hid (ckPut x = P) := ⟨_, Lib.hid rfl⟩
  obtain ⟨E, hE⟩ : ∃ E, Hid (ckPE x = E) := ⟨_, Lib.hid rfl⟩
  obtain ⟨G, hG⟩ : ∃ G, Hid (ckG x = G) := ⟨_, Lib.hid rfl⟩
  obtain ⟨M, hM⟩ : ∃ M, Hid (ckM x = M) := ⟨_, Lib.hid rfl⟩
  obtain ⟨D, hD⟩ : ∃ D, Hid (ckE x = D) := ⟨_, Lib.hid rfl⟩
  obtain ⟨S, hS⟩ : ∃ S, Hid ((ckScan x).2 = S) := ⟨_, Lib.hid rfl⟩
  obtain ⟨ls, hls⟩ : ∃ ls, Hid ((ckScan x).1 = ls) := ⟨_, Lib.hid rfl⟩
  have HPw : Hid (∀ y ∈ P, (Lit.int .u8 y).wf = true) := Lib.hid (by rw [← hP.out]; exact ckPut_wf hr.1)
  have HPl : Hid (P.length ≤ 1030) := Lib.hid (by rw [← hP.out]; exact ckPut_len x)
  have HGw : Hid (∀ y ∈ G, (Lit.int .u8 y).wf = true) := Lib.hid (by rw [← hG.out]; exact ckG_wf hr.1)
  have HGl : Hid (G.length ≤ 1024) := Lib.hid (by rw [← hG.out]; exact ckG_len x)
  have HLm : Hid (∀ p ∈ ls, p.length ≤ 1024 ∧ ∀ y ∈ p, (Lit.int .u8 y).wf = true) := Lib.hid (by rw [← hls.out]; exact ckScan_mem hr.1)
  have HLw : Hid (∀ p ∈ ls, ∀ y ∈ p, (Lit.int .u8 y).wf = true) := Lib.hid (fun p hp => (HLm.out p hp).2)
  obtain ⟨m, hmm⟩ : ∃ m, Hid (ls.length = m) := ⟨_, Lib.hid rfl⟩
  have hm1 : m ≤ 1073741824 := by
    have h1 := ckScan_few x
    have h2 := ckScan_le x
    rw [hls.out, hmm.out] at h1
    rw [hn] at h2
    omega
  have HIN : Hid (∀ i, i < m → (nthB ls i).length ≤ 70368744177664) := Lib.hid (fun i hi => by have := (HLm.out _ (nthB_mem ls i (by rw [hmm.out]; exact hi))).1; omega)
  have tE : (E != E) = false := by simp
  have tD : (D != D) = false := by simp
  have tM : ((M : Int) != (M : Int)) = false := by simp
  have tS : ((S : Int) != (S : Int)) = false := by simp
  clear hr hn
  go_enter Try.func3, Try.ntmps3
  go_wp2_with fail
  refine (lent_u8 A n c x w HR.out HN.out (by omega)).mono ?_
  rintro e w' ⟨rfl, rfl⟩
  have k1 : Bk (w.alloc (.cells (blk .u8 (x ++ marks5)) 5)) w.heap.size (x ++ marks5) := heap_alloc_new w _
  have b1 : Below w.heap.size w (w.alloc (.cells (blk .u8 (x ++ marks5)) 5)) := bel_alloc w _
  generalize w.alloc (.cells (blk .u8 (x ++ marks5)) 5) = w1 at *
  have hk1 := k1.lt
  go_wp2_with fail
  refine (chPut_any (some ⟨w.heap.size, 0, none⟩) n (n + 5) x w1 (k1.row x hwf.out (List.prefix_append _ _)) HN.out (by omega)).mono ?_
  rintro e w2 ⟨v2, rfl, o2, d2⟩
  rw [hP.out] at o2
  rw [hE.out]
  have p2 := KIn.of o2
  have k2 := k1.below d2
  have b2 := b1.trans (d2.mono b1.size)
  have hs2 := d2.size
  obtain ⟨A2, c2, rfl, _⟩ := o2.form
  clear k1 b1 d2 o2
  go_wp2_with fail
  refine (refChPut_any A n c x w2 ((HR.out.below b2).more b2.size) HN.out (by omega)).mono ?_
  rintro e w3 ⟨v3, rfl, o3, d3⟩
  rw [hP.out] at o3
  rw [hE.out]
  have p3 := p2.below d3
  have k3 := k2.below d3
  have b3 := b2.trans (d3.mono b2.size)
  have hs3 := d3.size
  obtain ⟨A3, c3, rfl, r3, _⟩ := o3.row HPw.out
  clear p2 k2 b2 d3 o3
  go_wp2_with fail
  refine (chGet_any (some ⟨w.heap.size, 0, none⟩) n (n + 5) x w3 (k3.row x hwf.out (List.prefix_append _ _)) HN.out (by omega) (by omega)).mono ?_
  rintro e w4 ⟨v4, rfl, o4, d4⟩
  rw [hG.out] at o4
  rw [hM.out, hD.out]
  have p4 := p3.below d4
  have x4 := KIn.of o4
  have k4 := k3.below d4
  have b4 := b3.trans (d4.mono b3.size)
  have q4 := (r3.below d4).more d4.size
  have hs4 := d4.size
  obtain ⟨A4, c4, rfl, _⟩ := o4.form
  clear p3 k3 b3 d4 o4 r3
  go_wp2_with fail
  refine (refChGet_any A n c x w4 ((HR.out.below b4).more b4.size) HN.out hc (by omega)).mono ?_
  rintro e w5 ⟨v5, rfl, o5, d5⟩
  rw [hG.out] at o5
  rw [hM.out, hD.out]
  have p5 := p4.below d5
  have x5 := x4.below d5
  have k5 := k4.below d5
  have b5 := b4.trans (d5.mono b4.size)
  have q5 := (q4.below d5).more d5.size
  have hs5 := d5.size
  obtain ⟨A5, c5, rfl, y5, _⟩ := o5.row HGw.out
  clear p4 x4 k4 b4 d5 o5 q4
  go_wp2_with fail
  refine (chScan_any (some ⟨w.heap.size, 0, none⟩) n (n + 5) x w5 (k5.row x hwf.out (List.prefix_append _ _)) HN.out (by omega) hfew).mono ?_
  rintro e w6 ⟨v6, rfl, l6, d6⟩
  rw [hls.out] at l6
  rw [hS.out]
  have p6 := p5.below d6
  have x6 := x5.below d6
  have k6 := k5.below d6
  have b6 := b5.trans (d6.mono b5.size)
  have q6 := (q5.below d6).more d6.size
  have y6 := (y5.below d6).more d6.size
  have hs6 := d6.size
  obtain ⟨A6, c6, rfl, _⟩ := l6.len
  rw [hmm.out] at l6 ⊢
  clear p5 x5 k5 b5 d6 q5 y5
  go_wp2_with fail
  refine (refChScan_any A n c x w6 ((HR.out.below b6).more b6.size) HN.out hc hfew).mono ?_
  rintro e w7 ⟨v7, rfl, l7, d7⟩
  rw [hls.out] at l7
  rw [hS.out]
  have P7 := Lib.hid (p6.below d7)
  have X7 := Lib.hid (x6.below d7)
  have K7 := Lib.hid (k6.below d7)
  have b7 := b6.trans (d7.mono b6.size)
  have Q7 := Lib.hid ((q6.below d7).more d7.size)
  have Y7 := Lib.hid ((y6.below d7).more d7.size)
  have L7 := Lib.hid (l6.below d7 (Nat.le_refl _))
  obtain ⟨A7, c7, rfl, _⟩ := l7.len
  rw [hmm.out] at l7 ⊢
  have B7 := Lib.hid (l7.brow HLw.out)
  have C7 := Lib.hid (L7.out.brow HLw.out)
  clear p6 x6 k6 b6 d7 q6 y6 l6 l7
  obtain ⟨Ap, cp, ep, rp, _⟩ := P7.out.own.row HPw.out
  injection ep with ep1 ep2 ep3
  subst ep1 ep3
  obtain ⟨Ag, cg, eg, rg, _⟩ := X7.out.own.row HGw.out
  injection eg with eg1 eg2 eg3
  subst eg1 eg3
  have RP := Lib.hid rp
  have RG := Lib.hid rg
  obtain ⟨np, hnp⟩ : ∃ np, Hid (P.length = np) := ⟨_, Lib.hid rfl⟩
  obtain ⟨ng, hng⟩ : ∃ ng, Hid (G.length = ng) := ⟨_, Lib.hid rfl⟩
  rw [hnp.out] at P7 HPl ⊢
  rw [hng.out] at X7 HGl ⊢
  have hnp1 := HPl.out
  have hng1 := HGl.out
  clear ep2 eg2 rp rg
  go_wp2_with fail
  refine (same_yes_u8 A2 A3 np c2 c3 P w7 _ _ RP.out Q7.out hnp.out (by omega)).mono ?_
  rintro e w8 ⟨rfl, m8, rfl⟩
  go_wp2_with fail
  refine (same_yes_u8 A4 A5 ng c4 c5 G (w7.drewN m8) _ _ (RG.out.drewN m8) (Y7.out.drewN m8) hng.out (by omega)).mono ?_
  rintro e w9 ⟨rfl, m9, rfl⟩
  go_wp2_with fail
  refine (SameRows_yes A6 A7 m c6 c7 ls _ _ _ (C7.out.drewN (m8 + m9)) (B7.out.drewN (m8 + m9)) hmm.out hm1 HIN.out).mono ?_
  rintro e w10 ⟨rfl, m10, rfl⟩
  obtain ⟨W, hW⟩ : ∃ W : World, W = (w7.drewN (m8 + m9)).drewN m10 := ⟨_, rfl⟩
  have bW : Below w.heap.size w W := by rw [hW]; exact ⟨b7.os, b7.tape, b7.output, b7.size, b7.block⟩
  have KW : Hid (Bk W w.heap.size (x ++ marks5)) := Lib.hid (by rw [hW]; exact (K7.out.drewN (m8 + m9)).drewN m10)
  have PW : Hid (KIn W w1.heap.size w2.heap.size (.slice A2 np c2) P) := Lib.hid (by rw [hW]; exact (P7.out.drewN (m8 + m9)).drewN m10)
  have XW : Hid (KIn W w3.heap.size w4.heap.size (.slice A4 ng c4) G) := Lib.hid (by rw [hW]; exact (X7.out.drewN (m8 + m9)).drewN m10)
  have LW : Hid (LOwn W w5.heap.size (.slice A6 m c6) ls) := Lib.hid (by rw [hW]; exact (L7.out.drewN (m8 + m9)).drewN m10)
  rw [← hW]
  have HRW := Lib.hid (HR.out.below bW)
  clear hW b7 K7 P7 X7 L7 Q7 Y7 B7 C7 RP RG
  rcases Nat.eq_zero_or_pos m with h0 | h0
  · subst h0
    have HA3 := Lib.hid (fun q => apart3_ck (w := W.drewN q) (t := 22) (KW.out.drewN q) hwf.out HN.out (by omega) (PW.out.drewN q) HPw.out (by rw [hnp.out]; omega) (XW.out.drewN q) HGw.out (by rw [hng.out]; omega) hk1 hs3 (by omega))
    go_wp2_with fail
    refine (kept_u8 A n c w.heap.size x W w.heap.size HRW.out HN.out (by omega) KW.out).mono ?_
    rintro e w11 ⟨rfl, m11, rfl⟩
    have b11 : Below w.heap.size w (W.drewN m11) := below_drewN bW m11
    go_wp2_with fail
    refine (HA3.out m11).mono ?_
    rintro e w12 ⟨rfl, b12⟩
    have b13 := b11.trans b12
    go_wp2
    go_ret
    exact ⟨rfl, b13⟩
  · have i1 : (m : Int) > 0 := by omega
    obtain ⟨g6, u, rfl, _, _, cu, ku, _⟩ := LW.out.at_ (i := 0) (by rw [hmm.out]; exact h0)
    have hmem := HLm.out _ (nthB_mem ls 0 (by rw [hmm.out]; exact h0))
    obtain ⟨p0, hp0⟩ : ∃ p, Hid (nthB ls 0 = p) := ⟨_, Lib.hid rfl⟩
    rw [hp0.out] at ku hmem
    have UW : KIn W w5.heap.size W.heap.size u p0 := ⟨ku, fun g e => (ku.block g e).2⟩
    obtain ⟨Au, cc, rfl, _⟩ := ku.form
    have hp01 := hmem.1
    have HA4 := Lib.hid (apart4_ck (t := 22) KW.out hwf.out HN.out (by omega) PW.out HPw.out (by rw [hnp.out]; omega) XW.out HGw.out (by rw [hng.out]; omega) UW hmem.2 (by omega) hk1 hs3 (by omega) hs5 (by omega))
    clear ku hmem UW
    go_wp2_with fail
    refine HA4.out.mono ?_
    rintro e w11 ⟨rfl, b11⟩
    have b12 := bW.trans b11
    go_wp2
    go_ret
    exact ⟨rfl, b12⟩
end Go.Proofs.Ytooelfmfcihlkaa
namespace Go.Proofs.Ytooelfmfcihlkaa.chunkLaysUpto
open Go.ChangeShapes Go.WideShapes Go.ChangeAt Go.RowKit
open Go.ChangeMaps (open_string shut_string)
set_option linter.unusedVariables false

theorem own : ownKnob Try.prog.godebug = none := by kernel_rfl
theorem laidOut : laidOutB Try.prog = true := by kernel_rfl

/-- What is read takes at least a place. -/
theorem bulk_one {H : Type} (d : DataW H) : 1 ≤ Rows.uptoBulk d := by
  cases d
  all_goals first
    | (simp [Rows.uptoBulk]; done)
    | (rename_i l; cases l <;> simp [Rows.uptoBulk])
theorem bulk_len {H : Type} (l : List (DataW H)) : l.length ≤ Rows.uptoBulkAll l := by
  induction l with
  | nil => exact Nat.zero_le _
  | cons d l ih =>
    have h := bulk_one d
    rw [List.length_cons, Rows.uptoBulkAll]
    omega
/-- So a slice that came in has no more places than the bound. -/
theorem few {H : Type} {d0 : DataW H} {c : Nat} (hk : Rows.uptoSmall H ([d0] ++ []) = true) (h : c = 0 ∨ ∃ el sp, d0 = .slice el sp ∧ c ≤ el.length + sp.length) : c ≤ 1048576 := by
  rcases h with rfl | ⟨el, sp, rfl, hc⟩
  · omega
  · have h : Rows.uptoBulkAll ([.slice el sp] ++ []) ≤ 1048576 := of_decide_eq_true hk
    simp only [List.append_nil, Rows.uptoBulkAll, Rows.uptoBulk] at h
    have h1 := bulk_len el
    have h2 := bulk_len sp
    omega

set_option maxRecDepth 100000 in
theorem lifted (os : Os) (started : os.Started) (H : Type) (enc : TypeId × Value → H) :
    (F : Stop.Interp) → ReturnsInHanded {} Try.checked os 3 .any ((Rows.OpenSpec.upto Rows.chunkLaysSpec).pre6 enc Try.prog Try.f3 Rows.chunkLaysUptoRow.domain false) (((Rows.OpenSpec.upto Rows.chunkLaysSpec).at F).post enc Try.prog Try.f3 false true false false) := by
  intro F
  refine returnsInHanded_of_cond_sized (C := Try.checked) (s := Rows.OpenSpec.upto Rows.chunkLaysSpec) (k := Rows.uptoSmall) rfl own started (by kernel_rfl) Try.func3
    (OpenSpec.witness (enc := enc) (C := Try.checked) (s := Rows.OpenSpec.upto Rows.chunkLaysSpec) (k := Rows.uptoSmall) rfl false ⟨#[], #[.slice none 0 0], []⟩ 8 (by kernel_rfl) (by kernel_rfl) (by kernel_rfl)
      (x := ([.nil], [], [])) (by kernel_rfl) rfl (by kernel_rfl)) ?_
  intro W base args ds gs before hval0 hW hcnd hk hsz0 _
  have hsz : (DataW.weightsEach Try.prog (Try.f3.params.toList ++ Rows.chunkLaysSpec.plain.varTypes Try.prog) (ds ++ gs)).all (· ≤ reachBytes) = true := hsz0
  clear hsz0
  have hval : ∀ (j : Nat) t v, Try.f3.params[j]? = some t → args[j]? = some v → Value.okWide Try.prog W .any base t v := hval0
  have hW' := hW
  obtain ⟨p, q, hA0, hV, rfl, hfz, hnd⟩ := hW
  have hA : DataW.TrodAll enc Try.prog W 0 (fun _ => true) true Try.f3.params.toList args.toList ds p := hA0
  rw [Try.params3] at hA hval hsz
  obtain ⟨v0, vs0, d0, ds0, p0, q0, hargs, rfl, rfl, h0, r0⟩ := trodAll_cons hA
  obtain ⟨rfl, rfl, rfl⟩ := trodAll_nil r0
  obtain rfl : args = #[v0] := by cases args; simp_all
  obtain ⟨rfl, rfl⟩ := trodVars_none hV
  obtain ⟨a0, l0, c0, rfl⟩ := okWide_slice Try.underlying22 (hval 0 22 v0 rfl rfl)
  have k0 := h0
  have lt0 : ∀ x ∈ p0, x.block < W.heap.size := by obtain ⟨m, hm⟩ := k0; exact DataW.trod_lt m _ _ _ hm
  obtain ⟨x0, w0, n0, s0, r0d⟩ := row_in Try.underlying22 Try.underlying5 (by kernel_rfl) h0 lt0
  have m0 := reach_in hsz 0 rfl rfl Try.underlying22 (of_decide_eq_true (by kernel_rfl)) r0d
  have hfew := few hk r0d
  clear hA0 hval0
  refine (walk_ChunkLays a0 l0 c0 x0 W w0 n0 s0 m0 (by omega)).mono fun e W' ⟨he, bel⟩ => ?_
  subst he
  exact ⟨_, rfl, _, _, _, [], _, [], hW', trodAll_mk1 (shut_bool Try.underlying4 _), (trodAll_cons_mk (Below.trod laidOut (by kernel_rfl) (of_decide_eq_true (by kernel_rfl)) k0 bel lt0) trodAll_mk0), rfl, bel.frame _, fun h => by cases h⟩

theorem over : Rows.chunkLaysUptoRow.holds Try.pinned (Rows.OpenSpec.upto Rows.chunkLaysSpec) :=
  OpenClaim.holds_of_cond 3 Try.f3 rfl rfl rfl rfl rfl rfl rfl ⟨rfl, rfl, rfl, rfl, rfl⟩ rfl rfl rfl rfl rfl (by kernel_rfl) Try.func3 (by kernel_rfl)
    (of_decide_eq_true (by kernel_rfl)) (by unfold Func.isWrapper; first | (rw [if_pos (by decide +kernel)]; kernel_rfl) | (rw [if_neg (by decide +kernel)]; exact ⟨rfl, rfl⟩))
    (fun os started H enc _ F => lifted os started H enc F)

theorem proved : Rows.ChunkLaysUptoSaid := over
#print axioms proved
end Go.Proofs.Ytooelfmfcihlkaa.chunkLaysUpto
