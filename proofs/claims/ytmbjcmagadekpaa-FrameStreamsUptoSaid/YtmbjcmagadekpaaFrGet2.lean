/-
  Contracts of Get of package frame.
-/
import Derived.Test.YtmbjcmagadekpaaFrGet
import Derived.Test.YtmbjcmagadekpaaPick
namespace Go.Proofs.Ytmbjcmagadekpaa
open Go.RowKit
set_option linter.unusedVariables false

/-- Three stores, field by field. -/
def put3 (w : World) (g : Nat) (v0 v1 v2 : Value) : World := ((w.setCell ⟨g, 0, none⟩ v0).setCell ⟨g, 1, none⟩ v1).setCell ⟨g, 2, none⟩ v2
theorem put3_heap {w : World} {g : Nat} {t : TypeId} {u0 u1 u2 : Value} (h : w.heap[g]? = some (.cells #[u0, u1, u2] t (0, 0))) (v0 v1 v2 : Value) :
    (put3 w g v0 v1 v2).heap[g]? = some (.cells #[v0, v1, v2] t (0, 0)) := box_set (box_set (box_set h 0 v0) 1 v1) 2 v2
theorem below_put3 {B : Nat} {a w : World} {g : Nat} (h : Below B a w) (hg : B ≤ g) (v0 v1 v2 : Value) : Below B a (put3 w g v0 v1 v2) :=
  below_setCell (below_setCell (below_setCell h hg 0 v0) hg 1 v1) hg 2 v2
theorem put3_other {w : World} {g j : Nat} (h : j ≠ g) (v0 v1 v2 : Value) : (put3 w g v0 v1 v2).heap[j]? = w.heap[j]? := by
  unfold put3
  rw [Below.heap_setCell _ _ _ _ (by simpa using h), Below.heap_setCell _ _ _ _ (by simpa using h), Below.heap_setCell _ _ _ _ (by simpa using h)]
theorem cells3 {w : World} {g : Nat} {t : TypeId} {v0 v1 v2 : Value} (h : w.heap[g]? = some (.cells #[v0, v1, v2] t (0, 0))) :
    w.cell? ⟨g, 0, none⟩ = some v0 ∧ w.cell? ⟨g, 1, none⟩ = some v1 ∧ w.cell? ⟨g, 2, none⟩ = some v2 :=
  ⟨cell_of_row w g 0 _ _ _ h, cell_of_row w g 1 _ _ _ h, cell_of_row w g 2 _ _ _ h⟩
theorem KOwn.put3 {k : IntKind} {e : TypeId} {w : World} {base : Nat} {v : Value} {xs : List Int} (h : KOwn k e w base v xs) {g : Nat} (hg : g < base) (v0 v1 v2 : Value) : KOwn k e (put3 w g v0 v1 v2) base v xs := by
  rcases h with h | ⟨q, n, cap, r, h1, h2, h3, h4, h5⟩
  · exact .inl h
  · exact .inr ⟨q, n, cap, r, h1, h2, h3, (put3_other (by omega) _ _ _).trans h4, h5⟩

/-- A frame, how many bytes it has, and a number. -/
def FrGotP (w : World) (b : List Int) (e : Ending) (w' : World) : Prop :=
  ∃ v, e = .returned (.tuple #[.agg #[.int .u16 (frGot b).id, .int .u8 (frGot b).u, v], .int .i64 (frLen b : Nat), .int .i64 (frErr b)]) ∧ KOwn .u8 5 w' w.heap.size v (frGot b).l ∧ Below w.heap.size w w'
theorem FrGotP.err {w w' : World} {b : List Int} {E : Int} {e : Ending} (hE : frErr b = E) (h0 : E ≠ 0) (he : e = .returned (.tuple #[.agg #[.int .u16 0, .int .u8 0, .slice none 0 0], .int .i64 0, .int .i64 E])) (hb : Below w.heap.size w w') : FrGotP w b e w' := by
  have h1 : frErr b ≠ 0 := by rw [hE]; exact h0
  refine ⟨.slice none 0 0, ?_, ?_, hb⟩
  · rw [he, frGot, frLen, if_neg h1, if_neg h1, hE]; rfl
  · rw [frGot, if_neg h1]; exact KOwn.nil _ _ _ _

theorem frGet_small (A : Option Addr) (n c : Nat) (b : List Int) (w : World) (hn : b.length = n) (h : n < 7) :
    Calls Try.prog 37 #[.slice A n c] w (FrGotP w b) := by
  have HE : Hid (frErr b = 1) := Lib.hid (by rw [frErr, if_pos (by omega)])
  have P5 := Lib.hid (heap_alloc_new w (.cells #[.int .u16 0, .int .u8 0, .slice none 0 0] 57))
  have B5 := Lib.hid (bel_alloc w (.cells #[.int .u16 0, .int .u8 0, .slice none 0 0] 57))
  clear hn
  go_enter Try.func37, Try.ntmps37
  go_wp2
  (try simp only [Exit.inBlock, Exit.then])
  generalize w.alloc (.cells #[.int .u16 0, .int .u8 0, .slice none 0 0] 57) = w6 at *
  obtain ⟨x0, x1, x2⟩ := cells3 P5.out
  refine bodyPost_ret (v := .tuple #[.agg #[.int .u16 0, .int .u8 0, .slice none 0 0], .int .i64 0, .int .i64 1]) (by simp [results, Try.results37, go_sem, x0, x1, x2]) rfl ?_
  exact FrGotP.err HE.out (by decide) rfl B5.out
theorem number_at (b o i c : Nat) (xs : List Int) (w : World) (B : Nat) (hr : Row .u8 w B (some ⟨b, o, none⟩) xs) (hi : i + 2 ≤ xs.length) :
    Calls Try.prog 85 #[.slice (some ⟨b, o + i, none⟩) 2 c] w fun e w' => e = .returned (.int .i64 (nth xs i * 256 + nth xs (i + 1))) ∧ ∃ m, w' = w.drewN m := by
  have h := number_any b (o + i) 2 c ((xs.drop i).take 2) w B ((hr.drop i).front 2) (by rw [List.length_take, List.length_drop]; omega) (by omega) (by omega)
  rw [nthTake _ _ _ (by omega), nthTake _ _ _ (by omega), nth_drop, nth_drop, Nat.add_zero] at h
  exact h
set_option maxHeartbeats 1000000 in
theorem frGet_form (b0 o0 n c : Nat) (b : List Int) (w : World) (hr : Row .u8 w w.heap.size (some ⟨b0, o0, none⟩) b) (hn : b.length = n) (hc : n ≤ c) (h7 : 7 ≤ n) (hbad : frBad b) :
    Calls Try.prog 37 #[.slice (some ⟨b0, o0, none⟩) n c] w (FrGotP w b) := by
  have HE : Hid (frErr b = 4) := Lib.hid (by rw [frErr, if_neg (by omega), if_pos hbad])
  have bx := Bx.new w (.cells #[.int .u16 0, .int .u8 0, .slice none 0 0] 57)
  have HR := Lib.hid hr
  have HN := Lib.hid hn
  have q2 := wf_nth8 hr.1 2
  have q3 := wf_nth8 hr.1 3
  have q4 := wf_nth8 hr.1 4
  have q5 := wf_nth8 hr.1 5
  obtain ⟨s, hs⟩ : ∃ s, Hid (nth b 4 * 256 + nth b 5 = s) := ⟨_, Lib.hid rfl⟩
  obtain ⟨z, hz⟩ : ∃ z, Hid (nth b 2 * 256 + nth b 3 = z) := ⟨_, Lib.hid rfl⟩
  have hcases : z ≠ 0 ∨ z = 0 ∧ (s < 2 ∨ ¬ s < 2 ∧ 254 < s) := by
    unfold frBad frSays at hbad
    have h1 := hs.out
    have h2 := hz.out
    omega
  have HQ := Lib.hid (show 0 ≤ s ∧ s < 65536 by have h1 := hs.out; omega)
  have i1 : (6 : Int) ≤ (n : Int) := by omega
  have i2 : (6 : Int) ≤ (c : Int) := by omega
  have i3 : (4 : Int) ≤ (c : Int) := by omega
  have i4 : ¬ c = 4 := by omega
  have i5 : ¬ c = 2 := by omega
  clear hr hn hbad q2 q3 q4 q5
  go_enter Try.func37, Try.ntmps37
  go_wp2_with fail
  refine (number_at b0 o0 4 _ b _ _ (HR.out.below bx.2) (by have := HN.out; omega)).mono ?_
  rintro e w1 ⟨rfl, m1, hw1⟩
  have bx1 : Bx w w.heap.size (.cells #[.int .u16 0, .int .u8 0, .slice none 0 0] 57 (0, 0)) w1 := by rw [hw1]; exact bx.drewN m1
  rw [hs.out]
  clear hw1 bx
  go_wp2_with fail
  refine (number_at b0 o0 2 _ b _ _ (HR.out.below bx1.2) (by have := HN.out; omega)).mono ?_
  rintro e w2 ⟨rfl, m2, hw2⟩
  have bx2 : Bx w w.heap.size (.cells #[.int .u16 0, .int .u8 0, .slice none 0 0] 57 (0, 0)) w2 := by rw [hw2]; exact bx1.drewN m2
  rw [hz.out]
  clear hw2 bx1
  have P5 := Lib.hid (put3_heap bx2.1 (.int .u16 0) (.int .u8 0) (.slice none 0 0))
  have B5 := Lib.hid (below_put3 bx2.2 (Nat.le_refl _) (.int .u16 0) (.int .u8 0) (.slice none 0 0))
  obtain ⟨y0, y1, y2⟩ := cells3 bx2.1
  have y3 := fun i => block_frozen _ _ i _ _ bx2.1
  rcases hcases with hz0 | ⟨rfl, hs0 | ⟨hs0, hs1⟩⟩
  · have t1 : (z != 0) = true := by simpa using hz0
    have t2 : (z == 0) = false := beq_false_of_ne hz0
    clear hz0
    go_wp2
    (try simp only [Exit.inBlock, Exit.then])
    show bodyPost _ _ _ _ _ (put3 w2 w.heap.size (.int .u16 0) (.int .u8 0) (.slice none 0 0))
    generalize put3 w2 w.heap.size (.int .u16 0) (.int .u8 0) (.slice none 0 0) = w6 at *
    obtain ⟨x0, x1, x2⟩ := cells3 P5.out
    refine bodyPost_ret (v := .tuple #[.agg #[.int .u16 0, .int .u8 0, .slice none 0 0], .int .i64 0, .int .i64 4]) (by simp [results, Try.results37, go_sem, x0, x1, x2]) rfl ?_
    exact FrGotP.err HE.out (by decide) rfl B5.out
  all_goals
    go_wp2
    (try simp only [Exit.inBlock, Exit.then])
    show bodyPost _ _ _ _ _ (put3 w2 w.heap.size (.int .u16 0) (.int .u8 0) (.slice none 0 0))
    generalize put3 w2 w.heap.size (.int .u16 0) (.int .u8 0) (.slice none 0 0) = w6 at *
    obtain ⟨x0, x1, x2⟩ := cells3 P5.out
    refine bodyPost_ret (v := .tuple #[.agg #[.int .u16 0, .int .u8 0, .slice none 0 0], .int .i64 0, .int .i64 4]) (by simp [results, Try.results37, go_sem, x0, x1, x2]) rfl ?_
    exact FrGotP.err HE.out (by decide) rfl B5.out
end Go.Proofs.Ytmbjcmagadekpaa
