/-
  Contracts of Get of package frame: a frame that is cut off, and a right one.
-/
import Derived.Test.YtmbjcmagadekpaaFrGet2
namespace Go.Proofs.Ytmbjcmagadekpaa
open Go.RowKit
set_option linter.unusedVariables false

set_option maxHeartbeats 1000000 in
theorem frGet_part (b0 o0 n c : Nat) (b : List Int) (w : World) (hr : Row .u8 w w.heap.size (some ⟨b0, o0, none⟩) b) (hn : b.length = n) (hc : n ≤ c) (h7 : 7 ≤ n) (hbad : ¬ frBad b) (hs6 : (b.length : Int) - 6 < frSays b) :
    Calls Try.prog 37 #[.slice (some ⟨b0, o0, none⟩) n c] w (FrGotP w b) := by
  have HE : Hid (frErr b = 1) := Lib.hid (by rw [frErr, if_neg (by omega), if_neg hbad, if_pos hs6])
  have bx := Bx.new w (.cells #[.int .u16 0, .int .u8 0, .slice none 0 0] 57)
  have HR := Lib.hid hr
  have HN := Lib.hid hn
  have q2 := wf_nth8 hr.1 2
  have q3 := wf_nth8 hr.1 3
  have q4 := wf_nth8 hr.1 4
  have q5 := wf_nth8 hr.1 5
  obtain ⟨s, hs⟩ : ∃ s, Hid (nth b 4 * 256 + nth b 5 = s) := ⟨_, Lib.hid rfl⟩
  obtain ⟨z, hz⟩ : ∃ z, Hid (nth b 2 * 256 + nth b 3 = z) := ⟨_, Lib.hid rfl⟩
  have hcases : z = 0 ∧ ¬ s < 2 ∧ ¬ 254 < s ∧ (n : Int) < 6 + s := by
    unfold frBad frSays at hbad
    unfold frSays at hs6
    have h1 := hs.out
    have h2 := hz.out
    omega
  obtain ⟨rfl, hs0, hs1, hs2⟩ := hcases
  have HQ := Lib.hid (show 0 ≤ s ∧ s < 65536 by have h1 := hs.out; omega)
  have i1 : (6 : Int) ≤ (n : Int) := by omega
  have i2 : (6 : Int) ≤ (c : Int) := by omega
  have i3 : (4 : Int) ≤ (c : Int) := by omega
  have i4 : ¬ c = 4 := by omega
  have i5 : ¬ c = 2 := by omega
  clear hr hn hbad hs6 q2 q3 q4 q5
  go_enter Try.func37, Try.ntmps37
  go_wp2_with fail
  refine (number_at b0 o0 4 _ b _ _ (HR.out.below bx.2) (by have := HN.out; omega)).mono ?_
  rintro e w1 ⟨rfl, m1, hw1⟩
  have bx1 : Bx w w.heap.size (.cells #[.int .u16 0, .int .u8 0, .slice none 0 0] 57 (0, 0)) w1 := by rw [hw1]; exact bx.drewN m1
  rw [hs.out]
  clear hw1 bx
  go_wp2_with fail
  refine (number_at b0 o0 2 _ b _ _ (HR.out.below bx1.2) (by have := HN.out; omega)).mono ?_
  rintro e w2 ⟨rfl, m2, hw2⟩
  have bx2 : Bx w w.heap.size (.cells #[.int .u16 0, .int .u8 0, .slice none 0 0] 57 (0, 0)) w2 := by rw [hw2]; exact bx1.drewN m2
  rw [hz.out]
  clear hw2 bx1
  have P5 := Lib.hid (put3_heap bx2.1 (.int .u16 0) (.int .u8 0) (.slice none 0 0))
  have B5 := Lib.hid (below_put3 bx2.2 (Nat.le_refl _) (.int .u16 0) (.int .u8 0) (.slice none 0 0))
  obtain ⟨y0, y1, y2⟩ := cells3 bx2.1
  have y3 := fun i => block_frozen _ _ i _ _ bx2.1
  go_wp2
  (try simp only [Exit.inBlock, Exit.then])
  show bodyPost _ _ _ _ _ (put3 w2 w.heap.size (.int .u16 0) (.int .u8 0) (.slice none 0 0))
  generalize put3 w2 w.heap.size (.int .u16 0) (.int .u8 0) (.slice none 0 0) = w6 at *
  obtain ⟨x0, x1, x2⟩ := cells3 P5.out
  refine bodyPost_ret (v := .tuple #[.agg #[.int .u16 0, .int .u8 0, .slice none 0 0], .int .i64 0, .int .i64 1]) (by simp [results, Try.results37, go_sem, x0, x1, x2]) rfl ?_
  exact FrGotP.err HE.out (by decide) rfl B5.out
end Go.Proofs.Ytmbjcmagadekpaa
