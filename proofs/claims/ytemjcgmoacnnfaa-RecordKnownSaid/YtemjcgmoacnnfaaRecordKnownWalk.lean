/-
  The walk of RecordKnown.
-/
import Derived.Test.YtemjcgmoacnnfaaRcKnown
import Derived.Deep.RegionHeld3
namespace Go.Proofs.Ytemjcgmoacnnfaa
open Go.RowKit
set_option linter.unusedVariables false
set_option maxRecDepth 100000

def stack : List Obj → World → World
  | [], w => w
  | o :: os, w => stack os (w.alloc o)
theorem stack_below : ∀ (os : List Obj) (w : World), Below w.heap.size w (stack os w)
  | [], w => Below.refl _ _
  | o :: os, w => by
    have h := stack_below os (w.alloc o)
    exact (bel_alloc w o).trans (h.mono (by simp))
theorem stack_get : ∀ (os : List Obj) (w : World) (i : Nat) (o : Obj), os[i]? = some o → (stack os w).heap[w.heap.size + i]? = some o
  | [], w, i, o, h => by simp at h
  | p :: os, w, 0, o, h => by
    simp only [List.getElem?_cons_zero, Option.some.injEq] at h
    subst h
    exact ((stack_below os (w.alloc p)).block _ (by simp)).trans (heap_alloc_new w p)
  | p :: os, w, i + 1, o, h => by
    have := stack_get os (w.alloc p) i o (by simpa using h)
    rw [show (w.alloc p).heap.size + i = w.heap.size + (i + 1) by simp; omega] at this
    exact this

theorem put_lit (k t : Int) (g : ByteArray) (v i : Int) (L : List Int) (n : Nat) (w : World) (hs : g.size ≤ maxLen) (h : chkRc ⟨k, t, g, v, i⟩ = 0) (hL : bytRc ⟨k, t, g, v, i⟩ = L) (hn : L.length = n) :
    Calls Try.prog 9 #[.agg #[.int .i64 k, .int .i64 t, .string g, .int .i64 v, .int .i64 i]] w fun e w' => ∃ A c, e = .returned (.tuple #[.slice A n c, .int .i64 0]) ∧ Row .u8 w' w'.heap.size A L ∧ Below w.heap.size w w' := by
  refine (Put11_any k t g v i w hs).mono fun e w' ⟨x, he, own, bel⟩ => ?_
  rw [h] at he
  rw [putRc, if_pos h, hL] at own
  obtain ⟨A, c, rfl, row, _, _⟩ := own.row (by rw [← hL]; exact bytRc_wf _ h)
  rw [hn] at he
  exact ⟨A, c, he, row, bel⟩
def lit1 : List Int := [1, 0, 0, 0, 0, 0, 0, 1, 2, 1, 116, 255, 255, 255, 255, 255, 255, 255, 255]
def lit2 : List Int := [6, 0, 0, 0, 0, 0, 0, 0, 1, 0, 0, 0, 0, 0, 0, 0, 7, 0, 0, 0, 0, 0, 0, 0, 102]
theorem put_lit1 (w : World) : Calls Try.prog 9 #[.agg #[.int .i64 1, .int .i64 258, .string ⟨#[116]⟩, .int .i64 (-1), .int .i64 0]] w fun e w' => ∃ A c, e = .returned (.tuple #[.slice A 19 c, .int .i64 0]) ∧ Row .u8 w' w'.heap.size A lit1 ∧ Below w.heap.size w w' :=
  put_lit 1 258 ⟨#[116]⟩ (-1) 0 lit1 19 w (by decide) (by decide +kernel) (by decide +kernel) rfl
theorem put_lit2 (w : World) : Calls Try.prog 9 #[.agg #[.int .i64 6, .int .i64 1, .string ⟨#[]⟩, .int .i64 102, .int .i64 7]] w fun e w' => ∃ A c, e = .returned (.tuple #[.slice A 25 c, .int .i64 0]) ∧ Row .u8 w' w'.heap.size A lit2 ∧ Below w.heap.size w w' :=
  put_lit 6 1 ⟨#[]⟩ 102 7 lit2 25 w (by decide) (by decide +kernel) (by decide +kernel) rfl
/-- A list held against a literal in a new block. -/
theorem same_lit (A : Option Addr) (n c : Nat) (L : List Int) (w W : World) (hW : W = w.alloc (.cells (blk .u8 L) 5)) (hr : Row .u8 w w.heap.size A L) (hn : L.length = n) (hb : n ≤ 1000) :
    Calls Try.prog 13 #[.slice A n c, .slice (some ⟨w.heap.size, 0, none⟩) n n] W fun e w' => e = .returned (.bool true) ∧ Below w.heap.size w w' := by
  subst hW
  refine (same_yes_u8 A _ n c n L _ _ _ (hr.alloc (Nat.le_refl _) _) (Row.of_block (heap_alloc_new w _) L hr.1 (List.prefix_refl _)) hn (by omega)).mono fun e w' ⟨he, m, hm⟩ => ⟨he, ?_⟩
  rw [hm]
  exact below_drewN (bel_alloc w _) m

theorem bad_0 : rcErr [] = 1 := by decide +kernel
theorem bad_1 : rcErr [7] = 28 := by decide +kernel
theorem bad_2 : rcErr [0] = 28 := by decide +kernel
theorem bad_3 : rcErr [1] = 1 := by decide +kernel
theorem bad_4 : rcErr [4, 0, 0, 0, 0, 0, 0, 0, 0, 0, 0, 0, 0, 0, 0, 0, 0] = 3 := by decide +kernel
theorem bad_5 : rcErr [4, 0, 0, 0, 0, 0, 0, 0, 0, 0, 0, 0, 0, 0, 0, 0, 3, 0] = 2 := by decide +kernel
theorem bad_6 : rcErr [5, 0, 0, 0, 0, 0, 0, 0, 0] = 1 := by decide +kernel
theorem bad_7 : rcErr [5, 128, 0, 0, 0, 0, 0, 0, 0, 0, 0, 0, 0, 0, 0, 0, 1] = 3 := by decide +kernel
theorem bad_got {xs : List Int} {E : Int} (h : rcErr xs = E) (he : E ≠ 0) : rcGot xs = zRc := by rw [rcGot, if_neg (by rw [h]; exact he)]
def recC : Array Value := #[.int .i64 4, .int .i64 0, .string ⟨#[]⟩, .int .i64 3, .int .i64 1, .int .i64 1, .int .i64 0, .string ⟨#[49]⟩, .int .i64 0, .int .i64 0, .int .i64 1, .int .i64 (-1), .string ⟨#[49]⟩, .int .i64 0, .int .i64 0, .int .i64 5, .int .i64 0, .string ⟨#[]⟩, .int .i64 1, .int .i64 1, .int .i64 3, .int .i64 0, .string ⟨#[116]⟩, .int .i64 1, .int .i64 0, .int .i64 2, .int .i64 0, .string ⟨#[116]⟩, .int .i64 4, .int .i64 0, .int .i64 2, .int .i64 0, .string ⟨#[116]⟩, .int .i64 5, .int .i64 0, .int .i64 2, .int .i64 0, .string ⟨#[116]⟩, .int .i64 0, .int .i64 0, .int .i64 6, .int .i64 0, .string ⟨#[]⟩, .int .i64 255, .int .i64 1, .int .i64 6, .int .i64 0, .string ⟨#[]⟩, .int .i64 256, .int .i64 1, .int .i64 6, .int .i64 0, .string ⟨#[]⟩, .int .i64 0, .int .i64 0, .int .i64 5, .int .i64 1099511627776, .string ⟨#[]⟩, .int .i64 0, .int .i64 1099511627776, .int .i64 5, .int .i64 0, .string ⟨#[]⟩, .int .i64 0, .int .i64 1099511627777, .int .i64 3, .int .i64 0, .string ⟨#[]⟩, .int .i64 0, .int .i64 0, .int .i64 1, .int .i64 0, .string ⟨#[116]⟩, .int .i64 (-1099511627776), .int .i64 0, .int .i64 1, .int .i64 0, .string ⟨#[116]⟩, .int .i64 (-1099511627777), .int .i64 0, .int .i64 4, .int .i64 0, .string ⟨#[]⟩, .int .i64 1099511627777, .int .i64 0, .int .i64 4, .int .i64 1099511627777, .string ⟨#[]⟩, .int .i64 1, .int .i64 0]
def errC : Array Value := #[.int .i64 23, .int .i64 8, .int .i64 3, .int .i64 23, .int .i64 23, .int .i64 0, .int .i64 3, .int .i64 3, .int .i64 0, .int .i64 3, .int .i64 3, .int .i64 0, .int .i64 3, .int .i64 3, .int .i64 0, .int .i64 3, .int .i64 3, .int .i64 3]
theorem krec_0 : chkRc ⟨4, 0, ⟨#[]⟩, 3, 1⟩ = 23 := by decide +kernel
theorem krec_1 : chkRc ⟨1, 0, ⟨#[49]⟩, 0, 0⟩ = 8 := by decide +kernel
theorem krec_2 : chkRc ⟨1, (-1), ⟨#[49]⟩, 0, 0⟩ = 3 := by decide +kernel
theorem krec_3 : chkRc ⟨5, 0, ⟨#[]⟩, 1, 1⟩ = 23 := by decide +kernel
theorem krec_4 : chkRc ⟨3, 0, ⟨#[116]⟩, 1, 0⟩ = 23 := by decide +kernel
theorem krec_5 : chkRc ⟨2, 0, ⟨#[116]⟩, 4, 0⟩ = 0 := by decide +kernel
theorem krec_6 : chkRc ⟨2, 0, ⟨#[116]⟩, 5, 0⟩ = 3 := by decide +kernel
theorem krec_7 : chkRc ⟨2, 0, ⟨#[116]⟩, 0, 0⟩ = 3 := by decide +kernel
theorem krec_8 : chkRc ⟨6, 0, ⟨#[]⟩, 255, 1⟩ = 0 := by decide +kernel
theorem krec_9 : chkRc ⟨6, 0, ⟨#[]⟩, 256, 1⟩ = 3 := by decide +kernel
theorem krec_10 : chkRc ⟨6, 0, ⟨#[]⟩, 0, 0⟩ = 3 := by decide +kernel
theorem krec_11 : chkRc ⟨5, 1099511627776, ⟨#[]⟩, 0, 1099511627776⟩ = 0 := by decide +kernel
theorem krec_12 : chkRc ⟨5, 0, ⟨#[]⟩, 0, 1099511627777⟩ = 3 := by decide +kernel
theorem krec_13 : chkRc ⟨3, 0, ⟨#[]⟩, 0, 0⟩ = 3 := by decide +kernel
theorem krec_14 : chkRc ⟨1, 0, ⟨#[116]⟩, (-1099511627776), 0⟩ = 0 := by decide +kernel
theorem krec_15 : chkRc ⟨1, 0, ⟨#[116]⟩, (-1099511627777), 0⟩ = 3 := by decide +kernel
theorem krec_16 : chkRc ⟨4, 0, ⟨#[]⟩, 1099511627777, 0⟩ = 3 := by decide +kernel
theorem krec_17 : chkRc ⟨4, 1099511627777, ⟨#[]⟩, 1, 0⟩ = 3 := by decide +kernel
theorem krec (k : Nat) (h : k < 18) : ∃ r : Rc, recC[k * 5]? = some (.int .i64 r.k) ∧ recC[k * 5 + 1]? = some (.int .i64 r.t) ∧ recC[k * 5 + 2]? = some (.string r.g) ∧ recC[k * 5 + 3]? = some (.int .i64 r.v) ∧ recC[k * 5 + 4]? = some (.int .i64 r.i) ∧ errC[k]? = some (.int .i64 (chkRc r)) ∧ r.g.size ≤ maxLen :=
  match k, h with
  | 0, _ => ⟨⟨4, 0, ⟨#[]⟩, 3, 1⟩, rfl, rfl, rfl, rfl, rfl, (by rw [krec_0]; rfl), by simp only [maxLen]; decide⟩
  | 1, _ => ⟨⟨1, 0, ⟨#[49]⟩, 0, 0⟩, rfl, rfl, rfl, rfl, rfl, (by rw [krec_1]; rfl), by simp only [maxLen]; decide⟩
  | 2, _ => ⟨⟨1, (-1), ⟨#[49]⟩, 0, 0⟩, rfl, rfl, rfl, rfl, rfl, (by rw [krec_2]; rfl), by simp only [maxLen]; decide⟩
  | 3, _ => ⟨⟨5, 0, ⟨#[]⟩, 1, 1⟩, rfl, rfl, rfl, rfl, rfl, (by rw [krec_3]; rfl), by simp only [maxLen]; decide⟩
  | 4, _ => ⟨⟨3, 0, ⟨#[116]⟩, 1, 0⟩, rfl, rfl, rfl, rfl, rfl, (by rw [krec_4]; rfl), by simp only [maxLen]; decide⟩
  | 5, _ => ⟨⟨2, 0, ⟨#[116]⟩, 4, 0⟩, rfl, rfl, rfl, rfl, rfl, (by rw [krec_5]; rfl), by simp only [maxLen]; decide⟩
  | 6, _ => ⟨⟨2, 0, ⟨#[116]⟩, 5, 0⟩, rfl, rfl, rfl, rfl, rfl, (by rw [krec_6]; rfl), by simp only [maxLen]; decide⟩
  | 7, _ => ⟨⟨2, 0, ⟨#[116]⟩, 0, 0⟩, rfl, rfl, rfl, rfl, rfl, (by rw [krec_7]; rfl), by simp only [maxLen]; decide⟩
  | 8, _ => ⟨⟨6, 0, ⟨#[]⟩, 255, 1⟩, rfl, rfl, rfl, rfl, rfl, (by rw [krec_8]; rfl), by simp only [maxLen]; decide⟩
  | 9, _ => ⟨⟨6, 0, ⟨#[]⟩, 256, 1⟩, rfl, rfl, rfl, rfl, rfl, (by rw [krec_9]; rfl), by simp only [maxLen]; decide⟩
  | 10, _ => ⟨⟨6, 0, ⟨#[]⟩, 0, 0⟩, rfl, rfl, rfl, rfl, rfl, (by rw [krec_10]; rfl), by simp only [maxLen]; decide⟩
  | 11, _ => ⟨⟨5, 1099511627776, ⟨#[]⟩, 0, 1099511627776⟩, rfl, rfl, rfl, rfl, rfl, (by rw [krec_11]; rfl), by simp only [maxLen]; decide⟩
  | 12, _ => ⟨⟨5, 0, ⟨#[]⟩, 0, 1099511627777⟩, rfl, rfl, rfl, rfl, rfl, (by rw [krec_12]; rfl), by simp only [maxLen]; decide⟩
  | 13, _ => ⟨⟨3, 0, ⟨#[]⟩, 0, 0⟩, rfl, rfl, rfl, rfl, rfl, (by rw [krec_13]; rfl), by simp only [maxLen]; decide⟩
  | 14, _ => ⟨⟨1, 0, ⟨#[116]⟩, (-1099511627776), 0⟩, rfl, rfl, rfl, rfl, rfl, (by rw [krec_14]; rfl), by simp only [maxLen]; decide⟩
  | 15, _ => ⟨⟨1, 0, ⟨#[116]⟩, (-1099511627777), 0⟩, rfl, rfl, rfl, rfl, rfl, (by rw [krec_15]; rfl), by simp only [maxLen]; decide⟩
  | 16, _ => ⟨⟨4, 0, ⟨#[]⟩, 1099511627777, 0⟩, rfl, rfl, rfl, rfl, rfl, (by rw [krec_16]; rfl), by simp only [maxLen]; decide⟩
  | 17, _ => ⟨⟨4, 1099511627777, ⟨#[]⟩, 1, 0⟩, rfl, rfl, rfl, rfl, rfl, (by rw [krec_17]; rfl), by simp only [maxLen]; decide⟩
  | k + 18, h => absurd h (by omega)
set_option maxHeartbeats 4000000 in
theorem walk_RecordKnown (w : World) : Calls Try.prog 8 #[] w fun e w' => e = .returned (.bool true) ∧ Below w.heap.size w w' := by
  go_enter Try.func8, Try.ntmps8
  go_wp2_with fail
  refine (put_lit1 _).mono ?_
  rintro e w1 ⟨A1, q1, rfl, row1, b1⟩
  go_wp2_with fail
  refine (put_lit2 _).mono ?_
  rintro e w2 ⟨A2, q2, rfl, row2, b2⟩
  have R1 := Lib.hid ((row1.below b2).more b2.size)
  have R2 := Lib.hid row2
  have bel2 := b1.trans (b2.mono b1.size)
  clear row1 row2 b1 b2
  go_wp2_with fail
  refine (same_lit A1 19 q1 lit1 w2 _ rfl R1.out rfl (by omega)).mono ?_
  rintro e w3 ⟨rfl, b3⟩
  have R3 := Lib.hid ((R2.out.below b3).more b3.size)
  have bel3 := bel2.trans (b3.mono bel2.size)
  clear R1 R2 bel2 b3
  go_wp2_with fail
  refine (same_lit A2 25 q2 lit2 w3 _ rfl R3.out rfl (by omega)).mono ?_
  rintro e w4 ⟨rfl, b4⟩
  have bel4 := bel3.trans (b4.mono bel3.size)
  clear R3 bel3 b4
  have g0 := stack_get [(.cells #[.int .u8 7] 5), (.cells #[.int .u8 0] 5), (.cells #[.int .u8 1] 5), (.cells #[.int .u8 4, .int .u8 0, .int .u8 0, .int .u8 0, .int .u8 0, .int .u8 0, .int .u8 0, .int .u8 0, .int .u8 0, .int .u8 0, .int .u8 0, .int .u8 0, .int .u8 0, .int .u8 0, .int .u8 0, .int .u8 0, .int .u8 0] 5), (.cells #[.int .u8 4, .int .u8 0, .int .u8 0, .int .u8 0, .int .u8 0, .int .u8 0, .int .u8 0, .int .u8 0, .int .u8 0, .int .u8 0, .int .u8 0, .int .u8 0, .int .u8 0, .int .u8 0, .int .u8 0, .int .u8 0, .int .u8 3, .int .u8 0] 5), (.cells #[.int .u8 5, .int .u8 0, .int .u8 0, .int .u8 0, .int .u8 0, .int .u8 0, .int .u8 0, .int .u8 0, .int .u8 0] 5), (.cells #[.int .u8 5, .int .u8 128, .int .u8 0, .int .u8 0, .int .u8 0, .int .u8 0, .int .u8 0, .int .u8 0, .int .u8 0, .int .u8 0, .int .u8 0, .int .u8 0, .int .u8 0, .int .u8 0, .int .u8 0, .int .u8 0, .int .u8 1] 5), (.cells #[.slice none 0 0, .slice (some ⟨w4.heap.size, 0, none⟩) 1 1, .slice (some ⟨w4.heap.size + 1, 0, none⟩) 1 1, .slice (some ⟨w4.heap.size + 1 + 1, 0, none⟩) 1 1, .slice (some ⟨w4.heap.size + 1 + 1 + 1, 0, none⟩) 17 17, .slice (some ⟨w4.heap.size + 1 + 1 + 1 + 1, 0, none⟩) 18 18, .slice (some ⟨w4.heap.size + 1 + 1 + 1 + 1 + 1, 0, none⟩) 9 9, .slice (some ⟨w4.heap.size + 1 + 1 + 1 + 1 + 1 + 1, 0, none⟩) 17 17] 24), (.cells #[.int .i64 1, .int .i64 28, .int .i64 28, .int .i64 1, .int .i64 3, .int .i64 2, .int .i64 1, .int .i64 3] 3)] w4
  have h0 : (((((((((w4.alloc (.cells #[.int .u8 7] 5)).alloc (.cells #[.int .u8 0] 5)).alloc (.cells #[.int .u8 1] 5)).alloc (.cells #[.int .u8 4, .int .u8 0, .int .u8 0, .int .u8 0, .int .u8 0, .int .u8 0, .int .u8 0, .int .u8 0, .int .u8 0, .int .u8 0, .int .u8 0, .int .u8 0, .int .u8 0, .int .u8 0, .int .u8 0, .int .u8 0, .int .u8 0] 5)).alloc (.cells #[.int .u8 4, .int .u8 0, .int .u8 0, .int .u8 0, .int .u8 0, .int .u8 0, .int .u8 0, .int .u8 0, .int .u8 0, .int .u8 0, .int .u8 0, .int .u8 0, .int .u8 0, .int .u8 0, .int .u8 0, .int .u8 0, .int .u8 3, .int .u8 0] 5)).alloc (.cells #[.int .u8 5, .int .u8 0, .int .u8 0, .int .u8 0, .int .u8 0, .int .u8 0, .int .u8 0, .int .u8 0, .int .u8 0] 5)).alloc (.cells #[.int .u8 5, .int .u8 128, .int .u8 0, .int .u8 0, .int .u8 0, .int .u8 0, .int .u8 0, .int .u8 0, .int .u8 0, .int .u8 0, .int .u8 0, .int .u8 0, .int .u8 0, .int .u8 0, .int .u8 0, .int .u8 0, .int .u8 1] 5)).alloc (.cells #[.slice none 0 0, .slice (some ⟨w4.heap.size, 0, none⟩) 1 1, .slice (some ⟨w4.heap.size + 1, 0, none⟩) 1 1, .slice (some ⟨w4.heap.size + 1 + 1, 0, none⟩) 1 1, .slice (some ⟨w4.heap.size + 1 + 1 + 1, 0, none⟩) 17 17, .slice (some ⟨w4.heap.size + 1 + 1 + 1 + 1, 0, none⟩) 18 18, .slice (some ⟨w4.heap.size + 1 + 1 + 1 + 1 + 1, 0, none⟩) 9 9, .slice (some ⟨w4.heap.size + 1 + 1 + 1 + 1 + 1 + 1, 0, none⟩) 17 17] 24)).alloc (.cells #[.int .i64 1, .int .i64 28, .int .i64 28, .int .i64 1, .int .i64 3, .int .i64 2, .int .i64 1, .int .i64 3] 3)).heap[w4.heap.size]? = _ := g0 0 _ rfl
  have h1 : (((((((((w4.alloc (.cells #[.int .u8 7] 5)).alloc (.cells #[.int .u8 0] 5)).alloc (.cells #[.int .u8 1] 5)).alloc (.cells #[.int .u8 4, .int .u8 0, .int .u8 0, .int .u8 0, .int .u8 0, .int .u8 0, .int .u8 0, .int .u8 0, .int .u8 0, .int .u8 0, .int .u8 0, .int .u8 0, .int .u8 0, .int .u8 0, .int .u8 0, .int .u8 0, .int .u8 0] 5)).alloc (.cells #[.int .u8 4, .int .u8 0, .int .u8 0, .int .u8 0, .int .u8 0, .int .u8 0, .int .u8 0, .int .u8 0, .int .u8 0, .int .u8 0, .int .u8 0, .int .u8 0, .int .u8 0, .int .u8 0, .int .u8 0, .int .u8 0, .int .u8 3, .int .u8 0] 5)).alloc (.cells #[.int .u8 5, .int .u8 0, .int .u8 0, .int .u8 0, .int .u8 0, .int .u8 0, .int .u8 0, .int .u8 0, .int .u8 0] 5)).alloc (.cells #[.int .u8 5, .int .u8 128, .int .u8 0, .int .u8 0, .int .u8 0, .int .u8 0, .int .u8 0, .int .u8 0, .int .u8 0, .int .u8 0, .int .u8 0, .int .u8 0, .int .u8 0, .int .u8 0, .int .u8 0, .int .u8 0, .int .u8 1] 5)).alloc (.cells #[.slice none 0 0, .slice (some ⟨w4.heap.size, 0, none⟩) 1 1, .slice (some ⟨w4.heap.size + 1, 0, none⟩) 1 1, .slice (some ⟨w4.heap.size + 1 + 1, 0, none⟩) 1 1, .slice (some ⟨w4.heap.size + 1 + 1 + 1, 0, none⟩) 17 17, .slice (some ⟨w4.heap.size + 1 + 1 + 1 + 1, 0, none⟩) 18 18, .slice (some ⟨w4.heap.size + 1 + 1 + 1 + 1 + 1, 0, none⟩) 9 9, .slice (some ⟨w4.heap.size + 1 + 1 + 1 + 1 + 1 + 1, 0, none⟩) 17 17] 24)).alloc (.cells #[.int .i64 1, .int .i64 28, .int .i64 28, .int .i64 1, .int .i64 3, .int .i64 2, .int .i64 1, .int .i64 3] 3)).heap[w4.heap.size + 1]? = _ := g0 1 _ rfl
  have h2 : (((((((((w4.alloc (.cells #[.int .u8 7] 5)).alloc (.cells #[.int .u8 0] 5)).alloc (.cells #[.int .u8 1] 5)).alloc (.cells #[.int .u8 4, .int .u8 0, .int .u8 0, .int .u8 0, .int .u8 0, .int .u8 0, .int .u8 0, .int .u8 0, .int .u8 0, .int .u8 0, .int .u8 0, .int .u8 0, .int .u8 0, .int .u8 0, .int .u8 0, .int .u8 0, .int .u8 0] 5)).alloc (.cells #[.int .u8 4, .int .u8 0, .int .u8 0, .int .u8 0, .int .u8 0, .int .u8 0, .int .u8 0, .int .u8 0, .int .u8 0, .int .u8 0, .int .u8 0, .int .u8 0, .int .u8 0, .int .u8 0, .int .u8 0, .int .u8 0, .int .u8 3, .int .u8 0] 5)).alloc (.cells #[.int .u8 5, .int .u8 0, .int .u8 0, .int .u8 0, .int .u8 0, .int .u8 0, .int .u8 0, .int .u8 0, .int .u8 0] 5)).alloc (.cells #[.int .u8 5, .int .u8 128, .int .u8 0, .int .u8 0, .int .u8 0, .int .u8 0, .int .u8 0, .int .u8 0, .int .u8 0, .int .u8 0, .int .u8 0, .int .u8 0, .int .u8 0, .int .u8 0, .int .u8 0, .int .u8 0, .int .u8 1] 5)).alloc (.cells #[.slice none 0 0, .slice (some ⟨w4.heap.size, 0, none⟩) 1 1, .slice (some ⟨w4.heap.size + 1, 0, none⟩) 1 1, .slice (some ⟨w4.heap.size + 1 + 1, 0, none⟩) 1 1, .slice (some ⟨w4.heap.size + 1 + 1 + 1, 0, none⟩) 17 17, .slice (some ⟨w4.heap.size + 1 + 1 + 1 + 1, 0, none⟩) 18 18, .slice (some ⟨w4.heap.size + 1 + 1 + 1 + 1 + 1, 0, none⟩) 9 9, .slice (some ⟨w4.heap.size + 1 + 1 + 1 + 1 + 1 + 1, 0, none⟩) 17 17] 24)).alloc (.cells #[.int .i64 1, .int .i64 28, .int .i64 28, .int .i64 1, .int .i64 3, .int .i64 2, .int .i64 1, .int .i64 3] 3)).heap[w4.heap.size + 1 + 1]? = _ := g0 2 _ rfl
  have h3 : (((((((((w4.alloc (.cells #[.int .u8 7] 5)).alloc (.cells #[.int .u8 0] 5)).alloc (.cells #[.int .u8 1] 5)).alloc (.cells #[.int .u8 4, .int .u8 0, .int .u8 0, .int .u8 0, .int .u8 0, .int .u8 0, .int .u8 0, .int .u8 0, .int .u8 0, .int .u8 0, .int .u8 0, .int .u8 0, .int .u8 0, .int .u8 0, .int .u8 0, .int .u8 0, .int .u8 0] 5)).alloc (.cells #[.int .u8 4, .int .u8 0, .int .u8 0, .int .u8 0, .int .u8 0, .int .u8 0, .int .u8 0, .int .u8 0, .int .u8 0, .int .u8 0, .int .u8 0, .int .u8 0, .int .u8 0, .int .u8 0, .int .u8 0, .int .u8 0, .int .u8 3, .int .u8 0] 5)).alloc (.cells #[.int .u8 5, .int .u8 0, .int .u8 0, .int .u8 0, .int .u8 0, .int .u8 0, .int .u8 0, .int .u8 0, .int .u8 0] 5)).alloc (.cells #[.int .u8 5, .int .u8 128, .int .u8 0, .int .u8 0, .int .u8 0, .int .u8 0, .int .u8 0, .int .u8 0, .int .u8 0, .int .u8 0, .int .u8 0, .int .u8 0, .int .u8 0, .int .u8 0, .int .u8 0, .int .u8 0, .int .u8 1] 5)).alloc (.cells #[.slice none 0 0, .slice (some ⟨w4.heap.size, 0, none⟩) 1 1, .slice (some ⟨w4.heap.size + 1, 0, none⟩) 1 1, .slice (some ⟨w4.heap.size + 1 + 1, 0, none⟩) 1 1, .slice (some ⟨w4.heap.size + 1 + 1 + 1, 0, none⟩) 17 17, .slice (some ⟨w4.heap.size + 1 + 1 + 1 + 1, 0, none⟩) 18 18, .slice (some ⟨w4.heap.size + 1 + 1 + 1 + 1 + 1, 0, none⟩) 9 9, .slice (some ⟨w4.heap.size + 1 + 1 + 1 + 1 + 1 + 1, 0, none⟩) 17 17] 24)).alloc (.cells #[.int .i64 1, .int .i64 28, .int .i64 28, .int .i64 1, .int .i64 3, .int .i64 2, .int .i64 1, .int .i64 3] 3)).heap[w4.heap.size + 1 + 1 + 1]? = _ := g0 3 _ rfl
  have h4 : (((((((((w4.alloc (.cells #[.int .u8 7] 5)).alloc (.cells #[.int .u8 0] 5)).alloc (.cells #[.int .u8 1] 5)).alloc (.cells #[.int .u8 4, .int .u8 0, .int .u8 0, .int .u8 0, .int .u8 0, .int .u8 0, .int .u8 0, .int .u8 0, .int .u8 0, .int .u8 0, .int .u8 0, .int .u8 0, .int .u8 0, .int .u8 0, .int .u8 0, .int .u8 0, .int .u8 0] 5)).alloc (.cells #[.int .u8 4, .int .u8 0, .int .u8 0, .int .u8 0, .int .u8 0, .int .u8 0, .int .u8 0, .int .u8 0, .int .u8 0, .int .u8 0, .int .u8 0, .int .u8 0, .int .u8 0, .int .u8 0, .int .u8 0, .int .u8 0, .int .u8 3, .int .u8 0] 5)).alloc (.cells #[.int .u8 5, .int .u8 0, .int .u8 0, .int .u8 0, .int .u8 0, .int .u8 0, .int .u8 0, .int .u8 0, .int .u8 0] 5)).alloc (.cells #[.int .u8 5, .int .u8 128, .int .u8 0, .int .u8 0, .int .u8 0, .int .u8 0, .int .u8 0, .int .u8 0, .int .u8 0, .int .u8 0, .int .u8 0, .int .u8 0, .int .u8 0, .int .u8 0, .int .u8 0, .int .u8 0, .int .u8 1] 5)).alloc (.cells #[.slice none 0 0, .slice (some ⟨w4.heap.size, 0, none⟩) 1 1, .slice (some ⟨w4.heap.size + 1, 0, none⟩) 1 1, .slice (some ⟨w4.heap.size + 1 + 1, 0, none⟩) 1 1, .slice (some ⟨w4.heap.size + 1 + 1 + 1, 0, none⟩) 17 17, .slice (some ⟨w4.heap.size + 1 + 1 + 1 + 1, 0, none⟩) 18 18, .slice (some ⟨w4.heap.size + 1 + 1 + 1 + 1 + 1, 0, none⟩) 9 9, .slice (some ⟨w4.heap.size + 1 + 1 + 1 + 1 + 1 + 1, 0, none⟩) 17 17] 24)).alloc (.cells #[.int .i64 1, .int .i64 28, .int .i64 28, .int .i64 1, .int .i64 3, .int .i64 2, .int .i64 1, .int .i64 3] 3)).heap[w4.heap.size + 1 + 1 + 1 + 1]? = _ := g0 4 _ rfl
  have h5 : (((((((((w4.alloc (.cells #[.int .u8 7] 5)).alloc (.cells #[.int .u8 0] 5)).alloc (.cells #[.int .u8 1] 5)).alloc (.cells #[.int .u8 4, .int .u8 0, .int .u8 0, .int .u8 0, .int .u8 0, .int .u8 0, .int .u8 0, .int .u8 0, .int .u8 0, .int .u8 0, .int .u8 0, .int .u8 0, .int .u8 0, .int .u8 0, .int .u8 0, .int .u8 0, .int .u8 0] 5)).alloc (.cells #[.int .u8 4, .int .u8 0, .int .u8 0, .int .u8 0, .int .u8 0, .int .u8 0, .int .u8 0, .int .u8 0, .int .u8 0, .int .u8 0, .int .u8 0, .int .u8 0, .int .u8 0, .int .u8 0, .int .u8 0, .int .u8 0, .int .u8 3, .int .u8 0] 5)).alloc (.cells #[.int .u8 5, .int .u8 0, .int .u8 0, .int .u8 0, .int .u8 0, .int .u8 0, .int .u8 0, .int .u8 0, .int .u8 0] 5)).alloc (.cells #[.int .u8 5, .int .u8 128, .int .u8 0, .int .u8 0, .int .u8 0, .int .u8 0, .int .u8 0, .int .u8 0, .int .u8 0, .int .u8 0, .int .u8 0, .int .u8 0, .int .u8 0, .int .u8 0, .int .u8 0, .int .u8 0, .int .u8 1] 5)).alloc (.cells #[.slice none 0 0, .slice (some ⟨w4.heap.size, 0, none⟩) 1 1, .slice (some ⟨w4.heap.size + 1, 0, none⟩) 1 1, .slice (some ⟨w4.heap.size + 1 + 1, 0, none⟩) 1 1, .slice (some ⟨w4.heap.size + 1 + 1 + 1, 0, none⟩) 17 17, .slice (some ⟨w4.heap.size + 1 + 1 + 1 + 1, 0, none⟩) 18 18, .slice (some ⟨w4.heap.size + 1 + 1 + 1 + 1 + 1, 0, none⟩) 9 9, .slice (some ⟨w4.heap.size + 1 + 1 + 1 + 1 + 1 + 1, 0, none⟩) 17 17] 24)).alloc (.cells #[.int .i64 1, .int .i64 28, .int .i64 28, .int .i64 1, .int .i64 3, .int .i64 2, .int .i64 1, .int .i64 3] 3)).heap[w4.heap.size + 1 + 1 + 1 + 1 + 1]? = _ := g0 5 _ rfl
  have h6 : (((((((((w4.alloc (.cells #[.int .u8 7] 5)).alloc (.cells #[.int .u8 0] 5)).alloc (.cells #[.int .u8 1] 5)).alloc (.cells #[.int .u8 4, .int .u8 0, .int .u8 0, .int .u8 0, .int .u8 0, .int .u8 0, .int .u8 0, .int .u8 0, .int .u8 0, .int .u8 0, .int .u8 0, .int .u8 0, .int .u8 0, .int .u8 0, .int .u8 0, .int .u8 0, .int .u8 0] 5)).alloc (.cells #[.int .u8 4, .int .u8 0, .int .u8 0, .int .u8 0, .int .u8 0, .int .u8 0, .int .u8 0, .int .u8 0, .int .u8 0, .int .u8 0, .int .u8 0, .int .u8 0, .int .u8 0, .int .u8 0, .int .u8 0, .int .u8 0, .int .u8 3, .int .u8 0] 5)).alloc (.cells #[.int .u8 5, .int .u8 0, .int .u8 0, .int .u8 0, .int .u8 0, .int .u8 0, .int .u8 0, .int .u8 0, .int .u8 0] 5)).alloc (.cells #[.int .u8 5, .int .u8 128, .int .u8 0, .int .u8 0, .int .u8 0, .int .u8 0, .int .u8 0, .int .u8 0, .int .u8 0, .int .u8 0, .int .u8 0, .int .u8 0, .int .u8 0, .int .u8 0, .int .u8 0, .int .u8 0, .int .u8 1] 5)).alloc (.cells #[.slice none 0 0, .slice (some ⟨w4.heap.size, 0, none⟩) 1 1, .slice (some ⟨w4.heap.size + 1, 0, none⟩) 1 1, .slice (some ⟨w4.heap.size + 1 + 1, 0, none⟩) 1 1, .slice (some ⟨w4.heap.size + 1 + 1 + 1, 0, none⟩) 17 17, .slice (some ⟨w4.heap.size + 1 + 1 + 1 + 1, 0, none⟩) 18 18, .slice (some ⟨w4.heap.size + 1 + 1 + 1 + 1 + 1, 0, none⟩) 9 9, .slice (some ⟨w4.heap.size + 1 + 1 + 1 + 1 + 1 + 1, 0, none⟩) 17 17] 24)).alloc (.cells #[.int .i64 1, .int .i64 28, .int .i64 28, .int .i64 1, .int .i64 3, .int .i64 2, .int .i64 1, .int .i64 3] 3)).heap[w4.heap.size + 1 + 1 + 1 + 1 + 1 + 1]? = _ := g0 6 _ rfl
  have h7 : (((((((((w4.alloc (.cells #[.int .u8 7] 5)).alloc (.cells #[.int .u8 0] 5)).alloc (.cells #[.int .u8 1] 5)).alloc (.cells #[.int .u8 4, .int .u8 0, .int .u8 0, .int .u8 0, .int .u8 0, .int .u8 0, .int .u8 0, .int .u8 0, .int .u8 0, .int .u8 0, .int .u8 0, .int .u8 0, .int .u8 0, .int .u8 0, .int .u8 0, .int .u8 0, .int .u8 0] 5)).alloc (.cells #[.int .u8 4, .int .u8 0, .int .u8 0, .int .u8 0, .int .u8 0, .int .u8 0, .int .u8 0, .int .u8 0, .int .u8 0, .int .u8 0, .int .u8 0, .int .u8 0, .int .u8 0, .int .u8 0, .int .u8 0, .int .u8 0, .int .u8 3, .int .u8 0] 5)).alloc (.cells #[.int .u8 5, .int .u8 0, .int .u8 0, .int .u8 0, .int .u8 0, .int .u8 0, .int .u8 0, .int .u8 0, .int .u8 0] 5)).alloc (.cells #[.int .u8 5, .int .u8 128, .int .u8 0, .int .u8 0, .int .u8 0, .int .u8 0, .int .u8 0, .int .u8 0, .int .u8 0, .int .u8 0, .int .u8 0, .int .u8 0, .int .u8 0, .int .u8 0, .int .u8 0, .int .u8 0, .int .u8 1] 5)).alloc (.cells #[.slice none 0 0, .slice (some ⟨w4.heap.size, 0, none⟩) 1 1, .slice (some ⟨w4.heap.size + 1, 0, none⟩) 1 1, .slice (some ⟨w4.heap.size + 1 + 1, 0, none⟩) 1 1, .slice (some ⟨w4.heap.size + 1 + 1 + 1, 0, none⟩) 17 17, .slice (some ⟨w4.heap.size + 1 + 1 + 1 + 1, 0, none⟩) 18 18, .slice (some ⟨w4.heap.size + 1 + 1 + 1 + 1 + 1, 0, none⟩) 9 9, .slice (some ⟨w4.heap.size + 1 + 1 + 1 + 1 + 1 + 1, 0, none⟩) 17 17] 24)).alloc (.cells #[.int .i64 1, .int .i64 28, .int .i64 28, .int .i64 1, .int .i64 3, .int .i64 2, .int .i64 1, .int .i64 3] 3)).heap[w4.heap.size + 1 + 1 + 1 + 1 + 1 + 1 + 1]? = _ := g0 7 _ rfl
  have h8 : (((((((((w4.alloc (.cells #[.int .u8 7] 5)).alloc (.cells #[.int .u8 0] 5)).alloc (.cells #[.int .u8 1] 5)).alloc (.cells #[.int .u8 4, .int .u8 0, .int .u8 0, .int .u8 0, .int .u8 0, .int .u8 0, .int .u8 0, .int .u8 0, .int .u8 0, .int .u8 0, .int .u8 0, .int .u8 0, .int .u8 0, .int .u8 0, .int .u8 0, .int .u8 0, .int .u8 0] 5)).alloc (.cells #[.int .u8 4, .int .u8 0, .int .u8 0, .int .u8 0, .int .u8 0, .int .u8 0, .int .u8 0, .int .u8 0, .int .u8 0, .int .u8 0, .int .u8 0, .int .u8 0, .int .u8 0, .int .u8 0, .int .u8 0, .int .u8 0, .int .u8 3, .int .u8 0] 5)).alloc (.cells #[.int .u8 5, .int .u8 0, .int .u8 0, .int .u8 0, .int .u8 0, .int .u8 0, .int .u8 0, .int .u8 0, .int .u8 0] 5)).alloc (.cells #[.int .u8 5, .int .u8 128, .int .u8 0, .int .u8 0, .int .u8 0, .int .u8 0, .int .u8 0, .int .u8 0, .int .u8 0, .int .u8 0, .int .u8 0, .int .u8 0, .int .u8 0, .int .u8 0, .int .u8 0, .int .u8 0, .int .u8 1] 5)).alloc (.cells #[.slice none 0 0, .slice (some ⟨w4.heap.size, 0, none⟩) 1 1, .slice (some ⟨w4.heap.size + 1, 0, none⟩) 1 1, .slice (some ⟨w4.heap.size + 1 + 1, 0, none⟩) 1 1, .slice (some ⟨w4.heap.size + 1 + 1 + 1, 0, none⟩) 17 17, .slice (some ⟨w4.heap.size + 1 + 1 + 1 + 1, 0, none⟩) 18 18, .slice (some ⟨w4.heap.size + 1 + 1 + 1 + 1 + 1, 0, none⟩) 9 9, .slice (some ⟨w4.heap.size + 1 + 1 + 1 + 1 + 1 + 1, 0, none⟩) 17 17] 24)).alloc (.cells #[.int .i64 1, .int .i64 28, .int .i64 28, .int .i64 1, .int .i64 3, .int .i64 2, .int .i64 1, .int .i64 3] 3)).heap[w4.heap.size + 1 + 1 + 1 + 1 + 1 + 1 + 1 + 1]? = _ := g0 8 _ rfl
  have bel5 : Below w4.heap.size w4 (((((((((w4.alloc (.cells #[.int .u8 7] 5)).alloc (.cells #[.int .u8 0] 5)).alloc (.cells #[.int .u8 1] 5)).alloc (.cells #[.int .u8 4, .int .u8 0, .int .u8 0, .int .u8 0, .int .u8 0, .int .u8 0, .int .u8 0, .int .u8 0, .int .u8 0, .int .u8 0, .int .u8 0, .int .u8 0, .int .u8 0, .int .u8 0, .int .u8 0, .int .u8 0, .int .u8 0] 5)).alloc (.cells #[.int .u8 4, .int .u8 0, .int .u8 0, .int .u8 0, .int .u8 0, .int .u8 0, .int .u8 0, .int .u8 0, .int .u8 0, .int .u8 0, .int .u8 0, .int .u8 0, .int .u8 0, .int .u8 0, .int .u8 0, .int .u8 0, .int .u8 3, .int .u8 0] 5)).alloc (.cells #[.int .u8 5, .int .u8 0, .int .u8 0, .int .u8 0, .int .u8 0, .int .u8 0, .int .u8 0, .int .u8 0, .int .u8 0] 5)).alloc (.cells #[.int .u8 5, .int .u8 128, .int .u8 0, .int .u8 0, .int .u8 0, .int .u8 0, .int .u8 0, .int .u8 0, .int .u8 0, .int .u8 0, .int .u8 0, .int .u8 0, .int .u8 0, .int .u8 0, .int .u8 0, .int .u8 0, .int .u8 1] 5)).alloc (.cells #[.slice none 0 0, .slice (some ⟨w4.heap.size, 0, none⟩) 1 1, .slice (some ⟨w4.heap.size + 1, 0, none⟩) 1 1, .slice (some ⟨w4.heap.size + 1 + 1, 0, none⟩) 1 1, .slice (some ⟨w4.heap.size + 1 + 1 + 1, 0, none⟩) 17 17, .slice (some ⟨w4.heap.size + 1 + 1 + 1 + 1, 0, none⟩) 18 18, .slice (some ⟨w4.heap.size + 1 + 1 + 1 + 1 + 1, 0, none⟩) 9 9, .slice (some ⟨w4.heap.size + 1 + 1 + 1 + 1 + 1 + 1, 0, none⟩) 17 17] 24)).alloc (.cells #[.int .i64 1, .int .i64 28, .int .i64 28, .int .i64 1, .int .i64 3, .int .i64 2, .int .i64 1, .int .i64 3] 3)) := stack_below [(.cells #[.int .u8 7] 5), (.cells #[.int .u8 0] 5), (.cells #[.int .u8 1] 5), (.cells #[.int .u8 4, .int .u8 0, .int .u8 0, .int .u8 0, .int .u8 0, .int .u8 0, .int .u8 0, .int .u8 0, .int .u8 0, .int .u8 0, .int .u8 0, .int .u8 0, .int .u8 0, .int .u8 0, .int .u8 0, .int .u8 0, .int .u8 0] 5), (.cells #[.int .u8 4, .int .u8 0, .int .u8 0, .int .u8 0, .int .u8 0, .int .u8 0, .int .u8 0, .int .u8 0, .int .u8 0, .int .u8 0, .int .u8 0, .int .u8 0, .int .u8 0, .int .u8 0, .int .u8 0, .int .u8 0, .int .u8 3, .int .u8 0] 5), (.cells #[.int .u8 5, .int .u8 0, .int .u8 0, .int .u8 0, .int .u8 0, .int .u8 0, .int .u8 0, .int .u8 0, .int .u8 0] 5), (.cells #[.int .u8 5, .int .u8 128, .int .u8 0, .int .u8 0, .int .u8 0, .int .u8 0, .int .u8 0, .int .u8 0, .int .u8 0, .int .u8 0, .int .u8 0, .int .u8 0, .int .u8 0, .int .u8 0, .int .u8 0, .int .u8 0, .int .u8 1] 5), (.cells #[.slice none 0 0, .slice (some ⟨w4.heap.size, 0, none⟩) 1 1, .slice (some ⟨w4.heap.size + 1, 0, none⟩) 1 1, .slice (some ⟨w4.heap.size + 1 + 1, 0, none⟩) 1 1, .slice (some ⟨w4.heap.size + 1 + 1 + 1, 0, none⟩) 17 17, .slice (some ⟨w4.heap.size + 1 + 1 + 1 + 1, 0, none⟩) 18 18, .slice (some ⟨w4.heap.size + 1 + 1 + 1 + 1 + 1, 0, none⟩) 9 9, .slice (some ⟨w4.heap.size + 1 + 1 + 1 + 1 + 1 + 1, 0, none⟩) 17 17] 24), (.cells #[.int .i64 1, .int .i64 28, .int .i64 28, .int .i64 1, .int .i64 3, .int .i64 2, .int .i64 1, .int .i64 3] 3)] w4
  have bel6 := bel4.trans (bel5.mono bel4.size)
  clear g0 bel5
  go_wp2
  generalize (((((((((w4.alloc (.cells #[.int .u8 7] 5)).alloc (.cells #[.int .u8 0] 5)).alloc (.cells #[.int .u8 1] 5)).alloc (.cells #[.int .u8 4, .int .u8 0, .int .u8 0, .int .u8 0, .int .u8 0, .int .u8 0, .int .u8 0, .int .u8 0, .int .u8 0, .int .u8 0, .int .u8 0, .int .u8 0, .int .u8 0, .int .u8 0, .int .u8 0, .int .u8 0, .int .u8 0] 5)).alloc (.cells #[.int .u8 4, .int .u8 0, .int .u8 0, .int .u8 0, .int .u8 0, .int .u8 0, .int .u8 0, .int .u8 0, .int .u8 0, .int .u8 0, .int .u8 0, .int .u8 0, .int .u8 0, .int .u8 0, .int .u8 0, .int .u8 0, .int .u8 3, .int .u8 0] 5)).alloc (.cells #[.int .u8 5, .int .u8 0, .int .u8 0, .int .u8 0, .int .u8 0, .int .u8 0, .int .u8 0, .int .u8 0, .int .u8 0] 5)).alloc (.cells #[.int .u8 5, .int .u8 128, .int .u8 0, .int .u8 0, .int .u8 0, .int .u8 0, .int .u8 0, .int .u8 0, .int .u8 0, .int .u8 0, .int .u8 0, .int .u8 0, .int .u8 0, .int .u8 0, .int .u8 0, .int .u8 0, .int .u8 1] 5)).alloc (.cells #[.slice none 0 0, .slice (some ⟨w4.heap.size, 0, none⟩) 1 1, .slice (some ⟨w4.heap.size + 1, 0, none⟩) 1 1, .slice (some ⟨w4.heap.size + 1 + 1, 0, none⟩) 1 1, .slice (some ⟨w4.heap.size + 1 + 1 + 1, 0, none⟩) 17 17, .slice (some ⟨w4.heap.size + 1 + 1 + 1 + 1, 0, none⟩) 18 18, .slice (some ⟨w4.heap.size + 1 + 1 + 1 + 1 + 1, 0, none⟩) 9 9, .slice (some ⟨w4.heap.size + 1 + 1 + 1 + 1 + 1 + 1, 0, none⟩) 17 17] 24)).alloc (.cells #[.int .i64 1, .int .i64 28, .int .i64 28, .int .i64 1, .int .i64 3, .int .i64 2, .int .i64 1, .int .i64 3] 3)) = W5 at *
  generalize w4.heap.size = z at *
  have HB : Hid (∀ k, k < 8 → ∃ A n xs E, W5.cell? ⟨z + 1 + 1 + 1 + 1 + 1 + 1 + 1, k, none⟩ = some (.slice A n n) ∧ Row .u8 W5 W5.heap.size A xs ∧ xs.length = n ∧ n ≤ 100 ∧ rcErr xs = E ∧ rcGot xs = zRc ∧ W5.cell? ⟨z + 1 + 1 + 1 + 1 + 1 + 1 + 1 + 1, k, none⟩ = some (.int .i64 E)) := Lib.hid (fun k hk =>
    match k, hk with
    | 0, _ => ⟨_, _, [], 1, cell_of_row W5 _ 0 _ _ _ h7, Row.nil _ _ _ _, rfl, by omega, bad_0, bad_got bad_0 (by decide), cell_of_row W5 _ 0 _ _ _ h8⟩
    | 1, _ => ⟨_, _, [7], 28, cell_of_row W5 _ 1 _ _ _ h7, (Row.of_block (l := [7]) h0 [7] (by decide) (List.prefix_refl _)).more (Nat.succ_le_of_lt (block_lt h0)), rfl, by omega, bad_1, bad_got bad_1 (by decide), cell_of_row W5 _ 1 _ _ _ h8⟩
    | 2, _ => ⟨_, _, [0], 28, cell_of_row W5 _ 2 _ _ _ h7, (Row.of_block (l := [0]) h1 [0] (by decide) (List.prefix_refl _)).more (Nat.succ_le_of_lt (block_lt h1)), rfl, by omega, bad_2, bad_got bad_2 (by decide), cell_of_row W5 _ 2 _ _ _ h8⟩
    | 3, _ => ⟨_, _, [1], 1, cell_of_row W5 _ 3 _ _ _ h7, (Row.of_block (l := [1]) h2 [1] (by decide) (List.prefix_refl _)).more (Nat.succ_le_of_lt (block_lt h2)), rfl, by omega, bad_3, bad_got bad_3 (by decide), cell_of_row W5 _ 3 _ _ _ h8⟩
    | 4, _ => ⟨_, _, [4, 0, 0, 0, 0, 0, 0, 0, 0, 0, 0, 0, 0, 0, 0, 0, 0], 3, cell_of_row W5 _ 4 _ _ _ h7, (Row.of_block (l := [4, 0, 0, 0, 0, 0, 0, 0, 0, 0, 0, 0, 0, 0, 0, 0, 0]) h3 [4, 0, 0, 0, 0, 0, 0, 0, 0, 0, 0, 0, 0, 0, 0, 0, 0] (by decide) (List.prefix_refl _)).more (Nat.succ_le_of_lt (block_lt h3)), rfl, by omega, bad_4, bad_got bad_4 (by decide), cell_of_row W5 _ 4 _ _ _ h8⟩
    | 5, _ => ⟨_, _, [4, 0, 0, 0, 0, 0, 0, 0, 0, 0, 0, 0, 0, 0, 0, 0, 3, 0], 2, cell_of_row W5 _ 5 _ _ _ h7, (Row.of_block (l := [4, 0, 0, 0, 0, 0, 0, 0, 0, 0, 0, 0, 0, 0, 0, 0, 3, 0]) h4 [4, 0, 0, 0, 0, 0, 0, 0, 0, 0, 0, 0, 0, 0, 0, 0, 3, 0] (by decide) (List.prefix_refl _)).more (Nat.succ_le_of_lt (block_lt h4)), rfl, by omega, bad_5, bad_got bad_5 (by decide), cell_of_row W5 _ 5 _ _ _ h8⟩
    | 6, _ => ⟨_, _, [5, 0, 0, 0, 0, 0, 0, 0, 0], 1, cell_of_row W5 _ 6 _ _ _ h7, (Row.of_block (l := [5, 0, 0, 0, 0, 0, 0, 0, 0]) h5 [5, 0, 0, 0, 0, 0, 0, 0, 0] (by decide) (List.prefix_refl _)).more (Nat.succ_le_of_lt (block_lt h5)), rfl, by omega, bad_6, bad_got bad_6 (by decide), cell_of_row W5 _ 6 _ _ _ h8⟩
    | 7, _ => ⟨_, _, [5, 128, 0, 0, 0, 0, 0, 0, 0, 0, 0, 0, 0, 0, 0, 0, 1], 3, cell_of_row W5 _ 7 _ _ _ h7, (Row.of_block (l := [5, 128, 0, 0, 0, 0, 0, 0, 0, 0, 0, 0, 0, 0, 0, 0, 1]) h6 [5, 128, 0, 0, 0, 0, 0, 0, 0, 0, 0, 0, 0, 0, 0, 0, 1] (by decide) (List.prefix_refl _)).more (Nat.succ_le_of_lt (block_lt h6)), rfl, by omega, bad_7, bad_got bad_7 (by decide), cell_of_row W5 _ 7 _ _ _ h8⟩
    | k + 8, hk => absurd hk (by omega))
  have hlt7 := block_lt h7
  have hlt8 := block_lt h8
  clear h0 h1 h2 h3 h4 h5 h6 h7 h8
  go_loopw [7, 8, 9] (fun i _ _ wr => ∃ k : Nat, k ≤ 8 ∧ i = .int .i64 k ∧ Hid (Below W5.heap.size W5 wr)) (fun i _ _ _ => 8 - (intOf i).toNat)
  case atStart => exact ⟨0, by omega, rfl, Lib.hid (Below.refl _ _)⟩
  case round =>
    obtain ⟨k, hk, rfl, hbel⟩ := hrel
    by_cases hlt : k < 8
    · obtain ⟨A, n, xs, E, hc1, hrow, hxn, hn, hE, hG, hc2⟩ := HB.out k hlt
      have d1 := (hbel.out.cell (p := ⟨z + 1 + 1 + 1 + 1 + 1 + 1 + 1, k, none⟩) hlt7).trans hc1
      have HR := Lib.hid ((hrow.below hbel.out).more hbel.out.size)
      have HX := Lib.hid hxn
      have HE := Lib.hid hE
      have HG := Lib.hid hG
      clear hc1 hrow hxn hE hG
      go_wp2_with fail
      refine (Get11_any A n n xs _ HR.out HX.out (by omega) (by omega) (by omega)).mono ?_
      rintro e w6 ⟨rfl, b6⟩
      rw [HE.out, HG.out]
      unfold rcV zRc
      simp only
      have hbel6 := hbel.out.trans (b6.mono hbel.out.size)
      have hbel7 := hbel6.alloc hbel6.size (.cells #[.int .i64 0, .int .i64 0, .string ⟨#[]⟩, .int .i64 0, .int .i64 0] 23)
      have d2 := (hbel7.cell (p := ⟨z + 1 + 1 + 1 + 1 + 1 + 1 + 1 + 1, k, none⟩) hlt8).trans hc2
      have tE : (E != E) = false := by simp
      clear d1 HR hc2 hbel b6 hbel6
      go_wp2
      go_roundw
      case rel => exact ⟨k + 1, by omega, by go_num, Lib.hid hbel7⟩
      case measure => simp [intOf]; omega
    · obtain rfl : k = 8 := by omega
      have bel8 := bel6.trans (hbel.out.mono bel6.size)
      clear hlt hk
      have hx1 : ((wr.alloc (.cells #[.int .i64 4, .int .i64 0, .string ⟨#[]⟩, .int .i64 3, .int .i64 1, .int .i64 1, .int .i64 0, .string ⟨#[49]⟩, .int .i64 0, .int .i64 0, .int .i64 1, .int .i64 (-1), .string ⟨#[49]⟩, .int .i64 0, .int .i64 0, .int .i64 5, .int .i64 0, .string ⟨#[]⟩, .int .i64 1, .int .i64 1, .int .i64 3, .int .i64 0, .string ⟨#[116]⟩, .int .i64 1, .int .i64 0, .int .i64 2, .int .i64 0, .string ⟨#[116]⟩, .int .i64 4, .int .i64 0, .int .i64 2, .int .i64 0, .string ⟨#[116]⟩, .int .i64 5, .int .i64 0, .int .i64 2, .int .i64 0, .string ⟨#[116]⟩, .int .i64 0, .int .i64 0, .int .i64 6, .int .i64 0, .string ⟨#[]⟩, .int .i64 255, .int .i64 1, .int .i64 6, .int .i64 0, .string ⟨#[]⟩, .int .i64 256, .int .i64 1, .int .i64 6, .int .i64 0, .string ⟨#[]⟩, .int .i64 0, .int .i64 0, .int .i64 5, .int .i64 1099511627776, .string ⟨#[]⟩, .int .i64 0, .int .i64 1099511627776, .int .i64 5, .int .i64 0, .string ⟨#[]⟩, .int .i64 0, .int .i64 1099511627777, .int .i64 3, .int .i64 0, .string ⟨#[]⟩, .int .i64 0, .int .i64 0, .int .i64 1, .int .i64 0, .string ⟨#[116]⟩, .int .i64 (-1099511627776), .int .i64 0, .int .i64 1, .int .i64 0, .string ⟨#[116]⟩, .int .i64 (-1099511627777), .int .i64 0, .int .i64 4, .int .i64 0, .string ⟨#[]⟩, .int .i64 1099511627777, .int .i64 0, .int .i64 4, .int .i64 1099511627777, .string ⟨#[]⟩, .int .i64 1, .int .i64 0] 23)).alloc (.cells #[.int .i64 23, .int .i64 8, .int .i64 3, .int .i64 23, .int .i64 23, .int .i64 0, .int .i64 3, .int .i64 3, .int .i64 0, .int .i64 3, .int .i64 3, .int .i64 0, .int .i64 3, .int .i64 3, .int .i64 0, .int .i64 3, .int .i64 3, .int .i64 3] 3)).heap[wr.heap.size]? = some (.cells recC 23 (0, 0)) := (heap_alloc_old (wr.alloc (.cells #[.int .i64 4, .int .i64 0, .string ⟨#[]⟩, .int .i64 3, .int .i64 1, .int .i64 1, .int .i64 0, .string ⟨#[49]⟩, .int .i64 0, .int .i64 0, .int .i64 1, .int .i64 (-1), .string ⟨#[49]⟩, .int .i64 0, .int .i64 0, .int .i64 5, .int .i64 0, .string ⟨#[]⟩, .int .i64 1, .int .i64 1, .int .i64 3, .int .i64 0, .string ⟨#[116]⟩, .int .i64 1, .int .i64 0, .int .i64 2, .int .i64 0, .string ⟨#[116]⟩, .int .i64 4, .int .i64 0, .int .i64 2, .int .i64 0, .string ⟨#[116]⟩, .int .i64 5, .int .i64 0, .int .i64 2, .int .i64 0, .string ⟨#[116]⟩, .int .i64 0, .int .i64 0, .int .i64 6, .int .i64 0, .string ⟨#[]⟩, .int .i64 255, .int .i64 1, .int .i64 6, .int .i64 0, .string ⟨#[]⟩, .int .i64 256, .int .i64 1, .int .i64 6, .int .i64 0, .string ⟨#[]⟩, .int .i64 0, .int .i64 0, .int .i64 5, .int .i64 1099511627776, .string ⟨#[]⟩, .int .i64 0, .int .i64 1099511627776, .int .i64 5, .int .i64 0, .string ⟨#[]⟩, .int .i64 0, .int .i64 1099511627777, .int .i64 3, .int .i64 0, .string ⟨#[]⟩, .int .i64 0, .int .i64 0, .int .i64 1, .int .i64 0, .string ⟨#[116]⟩, .int .i64 (-1099511627776), .int .i64 0, .int .i64 1, .int .i64 0, .string ⟨#[116]⟩, .int .i64 (-1099511627777), .int .i64 0, .int .i64 4, .int .i64 0, .string ⟨#[]⟩, .int .i64 1099511627777, .int .i64 0, .int .i64 4, .int .i64 1099511627777, .string ⟨#[]⟩, .int .i64 1, .int .i64 0] 23)) (.cells #[.int .i64 23, .int .i64 8, .int .i64 3, .int .i64 23, .int .i64 23, .int .i64 0, .int .i64 3, .int .i64 3, .int .i64 0, .int .i64 3, .int .i64 3, .int .i64 0, .int .i64 3, .int .i64 3, .int .i64 0, .int .i64 3, .int .i64 3, .int .i64 3] 3) (block_lt (heap_alloc_new wr _))).trans (heap_alloc_new wr _)
      have hx2 : ((wr.alloc (.cells #[.int .i64 4, .int .i64 0, .string ⟨#[]⟩, .int .i64 3, .int .i64 1, .int .i64 1, .int .i64 0, .string ⟨#[49]⟩, .int .i64 0, .int .i64 0, .int .i64 1, .int .i64 (-1), .string ⟨#[49]⟩, .int .i64 0, .int .i64 0, .int .i64 5, .int .i64 0, .string ⟨#[]⟩, .int .i64 1, .int .i64 1, .int .i64 3, .int .i64 0, .string ⟨#[116]⟩, .int .i64 1, .int .i64 0, .int .i64 2, .int .i64 0, .string ⟨#[116]⟩, .int .i64 4, .int .i64 0, .int .i64 2, .int .i64 0, .string ⟨#[116]⟩, .int .i64 5, .int .i64 0, .int .i64 2, .int .i64 0, .string ⟨#[116]⟩, .int .i64 0, .int .i64 0, .int .i64 6, .int .i64 0, .string ⟨#[]⟩, .int .i64 255, .int .i64 1, .int .i64 6, .int .i64 0, .string ⟨#[]⟩, .int .i64 256, .int .i64 1, .int .i64 6, .int .i64 0, .string ⟨#[]⟩, .int .i64 0, .int .i64 0, .int .i64 5, .int .i64 1099511627776, .string ⟨#[]⟩, .int .i64 0, .int .i64 1099511627776, .int .i64 5, .int .i64 0, .string ⟨#[]⟩, .int .i64 0, .int .i64 1099511627777, .int .i64 3, .int .i64 0, .string ⟨#[]⟩, .int .i64 0, .int .i64 0, .int .i64 1, .int .i64 0, .string ⟨#[116]⟩, .int .i64 (-1099511627776), .int .i64 0, .int .i64 1, .int .i64 0, .string ⟨#[116]⟩, .int .i64 (-1099511627777), .int .i64 0, .int .i64 4, .int .i64 0, .string ⟨#[]⟩, .int .i64 1099511627777, .int .i64 0, .int .i64 4, .int .i64 1099511627777, .string ⟨#[]⟩, .int .i64 1, .int .i64 0] 23)).alloc (.cells #[.int .i64 23, .int .i64 8, .int .i64 3, .int .i64 23, .int .i64 23, .int .i64 0, .int .i64 3, .int .i64 3, .int .i64 0, .int .i64 3, .int .i64 3, .int .i64 0, .int .i64 3, .int .i64 3, .int .i64 0, .int .i64 3, .int .i64 3, .int .i64 3] 3)).heap[wr.heap.size + 1]? = some (.cells errC 3 (0, 0)) := heap_alloc_two wr _ _
      have bel9 : Below w.heap.size w ((wr.alloc (.cells #[.int .i64 4, .int .i64 0, .string ⟨#[]⟩, .int .i64 3, .int .i64 1, .int .i64 1, .int .i64 0, .string ⟨#[49]⟩, .int .i64 0, .int .i64 0, .int .i64 1, .int .i64 (-1), .string ⟨#[49]⟩, .int .i64 0, .int .i64 0, .int .i64 5, .int .i64 0, .string ⟨#[]⟩, .int .i64 1, .int .i64 1, .int .i64 3, .int .i64 0, .string ⟨#[116]⟩, .int .i64 1, .int .i64 0, .int .i64 2, .int .i64 0, .string ⟨#[116]⟩, .int .i64 4, .int .i64 0, .int .i64 2, .int .i64 0, .string ⟨#[116]⟩, .int .i64 5, .int .i64 0, .int .i64 2, .int .i64 0, .string ⟨#[116]⟩, .int .i64 0, .int .i64 0, .int .i64 6, .int .i64 0, .string ⟨#[]⟩, .int .i64 255, .int .i64 1, .int .i64 6, .int .i64 0, .string ⟨#[]⟩, .int .i64 256, .int .i64 1, .int .i64 6, .int .i64 0, .string ⟨#[]⟩, .int .i64 0, .int .i64 0, .int .i64 5, .int .i64 1099511627776, .string ⟨#[]⟩, .int .i64 0, .int .i64 1099511627776, .int .i64 5, .int .i64 0, .string ⟨#[]⟩, .int .i64 0, .int .i64 1099511627777, .int .i64 3, .int .i64 0, .string ⟨#[]⟩, .int .i64 0, .int .i64 0, .int .i64 1, .int .i64 0, .string ⟨#[116]⟩, .int .i64 (-1099511627776), .int .i64 0, .int .i64 1, .int .i64 0, .string ⟨#[116]⟩, .int .i64 (-1099511627777), .int .i64 0, .int .i64 4, .int .i64 0, .string ⟨#[]⟩, .int .i64 1099511627777, .int .i64 0, .int .i64 4, .int .i64 1099511627777, .string ⟨#[]⟩, .int .i64 1, .int .i64 0] 23)).alloc (.cells #[.int .i64 23, .int .i64 8, .int .i64 3, .int .i64 23, .int .i64 23, .int .i64 0, .int .i64 3, .int .i64 3, .int .i64 0, .int .i64 3, .int .i64 3, .int .i64 0, .int .i64 3, .int .i64 3, .int .i64 0, .int .i64 3, .int .i64 3, .int .i64 3] 3)) := (bel8.alloc bel8.size _).alloc (bel8.alloc bel8.size _).size _
      clear bel8 bel6 hbel HB
      go_wp2
      generalize ((wr.alloc (.cells #[.int .i64 4, .int .i64 0, .string ⟨#[]⟩, .int .i64 3, .int .i64 1, .int .i64 1, .int .i64 0, .string ⟨#[49]⟩, .int .i64 0, .int .i64 0, .int .i64 1, .int .i64 (-1), .string ⟨#[49]⟩, .int .i64 0, .int .i64 0, .int .i64 5, .int .i64 0, .string ⟨#[]⟩, .int .i64 1, .int .i64 1, .int .i64 3, .int .i64 0, .string ⟨#[116]⟩, .int .i64 1, .int .i64 0, .int .i64 2, .int .i64 0, .string ⟨#[116]⟩, .int .i64 4, .int .i64 0, .int .i64 2, .int .i64 0, .string ⟨#[116]⟩, .int .i64 5, .int .i64 0, .int .i64 2, .int .i64 0, .string ⟨#[116]⟩, .int .i64 0, .int .i64 0, .int .i64 6, .int .i64 0, .string ⟨#[]⟩, .int .i64 255, .int .i64 1, .int .i64 6, .int .i64 0, .string ⟨#[]⟩, .int .i64 256, .int .i64 1, .int .i64 6, .int .i64 0, .string ⟨#[]⟩, .int .i64 0, .int .i64 0, .int .i64 5, .int .i64 1099511627776, .string ⟨#[]⟩, .int .i64 0, .int .i64 1099511627776, .int .i64 5, .int .i64 0, .string ⟨#[]⟩, .int .i64 0, .int .i64 1099511627777, .int .i64 3, .int .i64 0, .string ⟨#[]⟩, .int .i64 0, .int .i64 0, .int .i64 1, .int .i64 0, .string ⟨#[116]⟩, .int .i64 (-1099511627776), .int .i64 0, .int .i64 1, .int .i64 0, .string ⟨#[116]⟩, .int .i64 (-1099511627777), .int .i64 0, .int .i64 4, .int .i64 0, .string ⟨#[]⟩, .int .i64 1099511627777, .int .i64 0, .int .i64 4, .int .i64 1099511627777, .string ⟨#[]⟩, .int .i64 1, .int .i64 0] 23)).alloc (.cells #[.int .i64 23, .int .i64 8, .int .i64 3, .int .i64 23, .int .i64 23, .int .i64 0, .int .i64 3, .int .i64 3, .int .i64 0, .int .i64 3, .int .i64 3, .int .i64 0, .int .i64 3, .int .i64 3, .int .i64 0, .int .i64 3, .int .i64 3, .int .i64 3] 3)) = W7 at *
      generalize wr.heap.size = y at *
      have HQ : Hid (∀ k, k < 18 → ∃ r : Rc, W7.cell? ⟨y, k * 5, none⟩ = some (.int .i64 r.k) ∧ W7.cell? ⟨y, k * 5 + 1, none⟩ = some (.int .i64 r.t) ∧ W7.cell? ⟨y, k * 5 + 2, none⟩ = some (.string r.g) ∧ W7.cell? ⟨y, k * 5 + 3, none⟩ = some (.int .i64 r.v) ∧ W7.cell? ⟨y, k * 5 + 4, none⟩ = some (.int .i64 r.i) ∧ W7.cell? ⟨y + 1, k, none⟩ = some (.int .i64 (chkRc r)) ∧ r.g.size ≤ maxLen) := Lib.hid (fun k hk => by
        obtain ⟨r, e0, e1, e2, e3, e4, e5, e6⟩ := krec k hk
        exact ⟨r, (cell_of_row _ _ _ _ _ _ hx1).trans e0, (cell_of_row _ _ _ _ _ _ hx1).trans e1, (cell_of_row _ _ _ _ _ _ hx1).trans e2, (cell_of_row _ _ _ _ _ _ hx1).trans e3, (cell_of_row _ _ _ _ _ _ hx1).trans e4, (cell_of_row _ _ _ _ _ _ hx2).trans e5, e6⟩)
      have hl1 := block_lt hx1
      have hl2 := block_lt hx2
      clear hx1 hx2 hlt7 hlt8
      go_loopw [12] (fun i wr => ∃ k : Nat, k ≤ 18 ∧ i = .int .i64 k ∧ Hid (Below W7.heap.size W7 wr)) (fun i _ => 18 - (intOf i).toNat)
      case atStart => exact ⟨0, by omega, rfl, Lib.hid (Below.refl _ _)⟩
      case round =>
        obtain ⟨k, hk, rfl, hbel⟩ := hrel
        by_cases hlt : k < 18
        · obtain ⟨⟨rk, rt, rg, rv, ri⟩, e0, e1, e2, e3, e4, e5, hs⟩ := HQ.out k hlt
          simp only at e0 e1 e2 e3 e4 hs
          generalize hE : chkRc ⟨rk, rt, rg, rv, ri⟩ = E at e5
          have HE := Lib.hid hE
          clear hE
          have HK : Hid (∀ w' : World, Below W7.heap.size W7 w' → (Below W7.heap.size W7 w' ∧ w'.cell? ⟨y, k * 5, none⟩ = some (.int .i64 rk) ∧ w'.cell? ⟨y, k * 5 + 1, none⟩ = some (.int .i64 rt) ∧ w'.cell? ⟨y, k * 5 + 2, none⟩ = some (.string rg) ∧ w'.cell? ⟨y, k * 5 + 3, none⟩ = some (.int .i64 rv) ∧ w'.cell? ⟨y, k * 5 + 4, none⟩ = some (.int .i64 ri) ∧ w'.cell? ⟨y + 1, k, none⟩ = some (.int .i64 E))) := Lib.hid fun w' hw => ⟨hw, (hw.cell (p := ⟨y, k * 5, none⟩) hl1).trans e0, (hw.cell (p := ⟨y, k * 5 + 1, none⟩) hl1).trans e1, (hw.cell (p := ⟨y, k * 5 + 2, none⟩) hl1).trans e2, (hw.cell (p := ⟨y, k * 5 + 3, none⟩) hl1).trans e3, (hw.cell (p := ⟨y, k * 5 + 4, none⟩) hl1).trans e4, (hw.cell (p := ⟨y + 1, k, none⟩) hl2).trans e5⟩
          have belh : ∀ w' : World, (Below W7.heap.size W7 w' ∧ w'.cell? ⟨y, k * 5, none⟩ = some (.int .i64 rk) ∧ w'.cell? ⟨y, k * 5 + 1, none⟩ = some (.int .i64 rt) ∧ w'.cell? ⟨y, k * 5 + 2, none⟩ = some (.string rg) ∧ w'.cell? ⟨y, k * 5 + 3, none⟩ = some (.int .i64 rv) ∧ w'.cell? ⟨y, k * 5 + 4, none⟩ = some (.int .i64 ri) ∧ w'.cell? ⟨y + 1, k, none⟩ = some (.int .i64 E)) → Below W7.heap.size W7 w' := fun w' h => h.1
          have bel6 := hbel.out
          have tE : (E != E) = false := by simp
          clear e0 e1 e2 e3 e4 e5 hbel
          go_wp2_with fail
          go_region_held3 (fun w' => Below W7.heap.size W7 w' ∧ w'.cell? ⟨y, k * 5, none⟩ = some (.int .i64 rk) ∧ w'.cell? ⟨y, k * 5 + 1, none⟩ = some (.int .i64 rt) ∧ w'.cell? ⟨y, k * 5 + 2, none⟩ = some (.string rg) ∧ w'.cell? ⟨y, k * 5 + 3, none⟩ = some (.int .i64 rv) ∧ w'.cell? ⟨y, k * 5 + 4, none⟩ = some (.int .i64 ri) ∧ w'.cell? ⟨y + 1, k, none⟩ = some (.int .i64 E))
            ((refine HK.out _ ?_
              repeat' (first
                | with_reducible exact bel6
                | with_reducible exact bel7
                | with_reducible exact belh _ (by assumption)
                | with_reducible apply below_drew
                | with_reducible apply below_drewN
                | fail)))
            (first
              | (go_at_call 11; refine (Check11_any rk rt rg rv ri _ hs).mono ?_; rintro e w5 ⟨rfl, b5⟩; rw [HE.out]; have bel7 : Below W7.heap.size W7 w5 := Below.trans (belh _ (by assumption)) (b5.mono (Below.size (belh _ (by assumption)))))
              | fail)
          all_goals
            go_wp2
            go_roundw
            case rel =>
              refine ⟨k + 1, by omega, by go_num, Lib.hid ?_⟩
              repeat' (first | assumption | apply below_drew | apply below_drewN)
            case measure => simp [intOf]; omega
        · obtain rfl : k = 18 := by omega
          have bel10 := bel9.trans (hbel.out.mono bel9.size)
          clear hlt hk hbel
          go_wp2_with fail
          refine (known11_yes _).mono ?_
          rintro e w9 ⟨rfl, b9⟩
          go_wp2
          go_ret
          exact ⟨rfl, bel10.trans (b9.mono bel10.size)⟩
end Go.Proofs.Ytemjcgmoacnnfaa
