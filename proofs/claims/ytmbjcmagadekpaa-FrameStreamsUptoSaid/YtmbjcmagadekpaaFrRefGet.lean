/-
  Contracts of the document's Get of layer 5: what is refused.
-/
import Derived.Test.YtmbjcmagadekpaaFrGet2
namespace Go.Proofs.Ytmbjcmagadekpaa
open Go.RowKit
set_option linter.unusedVariables false

theorem refGet_small (A : Option Addr) (n c : Nat) (b : List Int) (w : World) (hn : b.length = n) (h : n < 7) :
    Calls Try.prog 38 #[.slice A n c] w (FrGotP w b) := by
  have HE : Hid (frErr b = 1) := Lib.hid (by rw [frErr, if_pos (by omega)])
  have P5 := Lib.hid (heap_alloc_new w (.cells #[.int .u16 0, .int .u8 0, .slice none 0 0] 57))
  have B5 := Lib.hid (bel_alloc w (.cells #[.int .u16 0, .int .u8 0, .slice none 0 0] 57))
  clear hn
  go_enter Try.func38, Try.ntmps38
  go_wp2
  (try simp only [Exit.inBlock, Exit.then])
  generalize w.alloc (.cells #[.int .u16 0, .int .u8 0, .slice none 0 0] 57) = w6 at *
  obtain ⟨x0, x1, x2⟩ := cells3 P5.out
  refine bodyPost_ret (v := .tuple #[.agg #[.int .u16 0, .int .u8 0, .slice none 0 0], .int .i64 0, .int .i64 1]) (by simp [results, Try.results38, go_sem, x0, x1, x2]) rfl ?_
  exact FrGotP.err HE.out (by decide) rfl B5.out
set_option maxHeartbeats 2000000 in
set_option maxRecDepth 100000 in
theorem refGet_form (b0 o0 n c : Nat) (b : List Int) (w : World) (hr : Row .u8 w w.heap.size (some ⟨b0, o0, none⟩) b) (hn : b.length = n) (hc : n ≤ c) (h7 : 7 ≤ n) (hbad : frBad b) :
    Calls Try.prog 38 #[.slice (some ⟨b0, o0, none⟩) n c] w (FrGotP w b) := by
  have HE : Hid (frErr b = 4) := Lib.hid (by rw [frErr, if_neg (by omega), if_pos hbad])
  have bx := Bx.new w (.cells #[.int .u16 0, .int .u8 0, .slice none 0 0] 57)
  have HN := Lib.hid hn
  have HR := Lib.hid hr
  have hcl : ∀ i, i < n → ∀ W, Below w.heap.size w W → W.cell? ⟨b0, o0 + i, none⟩ = some (.int .u8 (nth b i)) := by
    intro i hi W hb
    obtain ⟨b9, o9, e9, hlt9, hc9⟩ := hr.at_ (i := i) (by omega)
    injection e9 with e9
    injection e9 with e91 e92
    subst e91 e92
    exact (hb.cell (p := ⟨b0, o0 + i, none⟩) hlt9).trans hc9
  have HCL := Lib.hid hcl
  have d2 := hcl 2 (by omega) _ bx.2
  have d3 := hcl 3 (by omega) _ bx.2
  have d4 := hcl 4 (by omega) _ bx.2
  have d5 := hcl 5 (by omega) _ bx.2
  have q2 := wf_nth8 hr.1 2
  have q3 := wf_nth8 hr.1 3
  have q4 := wf_nth8 hr.1 4
  have q5 := wf_nth8 hr.1 5
  have e1 : IntKind.i64.wrap (nth b 4 * 256) = nth b 4 * 256 := IntWalk.i64_in _ (by omega)
  have e2 : IntKind.i64.wrap (nth b 4 * 256 + nth b 5) = nth b 4 * 256 + nth b 5 := IntWalk.i64_in _ (by omega)
  have e3 : IntKind.i64.wrap (nth b 4) = nth b 4 := IntWalk.i64_in _ (by omega)
  have e4 : IntKind.i64.wrap (nth b 5) = nth b 5 := IntWalk.i64_in _ (by omega)
  have j4 : (4 : Int) < (n : Int) := by omega
  have j5 : (5 : Int) < (n : Int) := by omega
  have j3 : (3 : Int) < (n : Int) := by omega
  have j2 : (2 : Int) < (n : Int) := by omega
  have hcases : nth b 2 ≠ 0 ∨ nth b 2 = 0 ∧ (nth b 3 ≠ 0 ∨ nth b 3 = 0 ∧ (nth b 4 * 256 + nth b 5 < 2 ∨ ¬ nth b 4 * 256 + nth b 5 < 2 ∧ 254 < nth b 4 * 256 + nth b 5)) := by
    unfold frBad frSays at hbad
    omega
  have HC := Lib.hid hcases
  have HQ2 := Lib.hid q2
  clear hcl hcases hr hn hbad
  go_enter Try.func38, Try.ntmps38
  go_wp2
  go_quiet (fail)
  have bx2 := bx.drewN nq
  have P5 := Lib.hid (put3_heap bx2.1 (.int .u16 0) (.int .u8 0) (.slice none 0 0))
  have B5 := Lib.hid (below_put3 bx2.2 (Nat.le_refl _) (.int .u16 0) (.int .u8 0) (.slice none 0 0))
  have d2 := HCL.out 2 (by omega) _ bx2.2
  have d3 := HCL.out 3 (by omega) _ bx2.2
  obtain ⟨z0, z1, z2⟩ := cells3 bx2.1
  have zf := fun i => block_frozen _ _ i _ _ bx2.1
  generalize (w.alloc (.cells #[.int .u16 0, .int .u8 0, .slice none 0 0] 57)).drewN nq = w2 at *
  rcases HC.out with h | ⟨h, h'⟩
  · have t1 : (nth b 2 != 0) = true := by simpa using h
    have t2 : (nth b 2 == 0) = false := beq_false_of_ne h
    clear h
    go_wp2
    (try simp only [Exit.inBlock, Exit.then])
    show bodyPost _ _ _ _ _ (put3 w2 w.heap.size (.int .u16 0) (.int .u8 0) (.slice none 0 0))
    generalize put3 w2 w.heap.size (.int .u16 0) (.int .u8 0) (.slice none 0 0) = w6 at *
    obtain ⟨x0, x1, x2⟩ := cells3 P5.out
    refine bodyPost_ret (v := .tuple #[.agg #[.int .u16 0, .int .u8 0, .slice none 0 0], .int .i64 0, .int .i64 4]) (by simp [results, Try.results38, go_sem, x0, x1, x2]) rfl ?_
    exact FrGotP.err HE.out (by decide) rfl B5.out
  · rw [h] at d2
    clear h
    rcases h' with h | ⟨h, h'⟩
    · have t1 : (nth b 3 != 0) = true := by simpa using h
      have t2 : (nth b 3 == 0) = false := beq_false_of_ne h
      clear h
      go_wp2
      (try simp only [Exit.inBlock, Exit.then])
      show bodyPost _ _ _ _ _ (put3 w2 w.heap.size (.int .u16 0) (.int .u8 0) (.slice none 0 0))
      generalize put3 w2 w.heap.size (.int .u16 0) (.int .u8 0) (.slice none 0 0) = w6 at *
      obtain ⟨x0, x1, x2⟩ := cells3 P5.out
      refine bodyPost_ret (v := .tuple #[.agg #[.int .u16 0, .int .u8 0, .slice none 0 0], .int .i64 0, .int .i64 4]) (by simp [results, Try.results38, go_sem, x0, x1, x2]) rfl ?_
      exact FrGotP.err HE.out (by decide) rfl B5.out
    · rw [h] at d3
      clear h
      rcases h' with h | ⟨h, h'⟩
      · go_wp2
        (try simp only [Exit.inBlock, Exit.then])
        show bodyPost _ _ _ _ _ (put3 w2 w.heap.size (.int .u16 0) (.int .u8 0) (.slice none 0 0))
        generalize put3 w2 w.heap.size (.int .u16 0) (.int .u8 0) (.slice none 0 0) = w6 at *
        obtain ⟨x0, x1, x2⟩ := cells3 P5.out
        refine bodyPost_ret (v := .tuple #[.agg #[.int .u16 0, .int .u8 0, .slice none 0 0], .int .i64 0, .int .i64 4]) (by simp [results, Try.results38, go_sem, x0, x1, x2]) rfl ?_
        exact FrGotP.err HE.out (by decide) rfl B5.out
      · go_wp2
        (try simp only [Exit.inBlock, Exit.then])
        show bodyPost _ _ _ _ _ (put3 w2 w.heap.size (.int .u16 0) (.int .u8 0) (.slice none 0 0))
        generalize put3 w2 w.heap.size (.int .u16 0) (.int .u8 0) (.slice none 0 0) = w6 at *
        obtain ⟨x0, x1, x2⟩ := cells3 P5.out
        refine bodyPost_ret (v := .tuple #[.agg #[.int .u16 0, .int .u8 0, .slice none 0 0], .int .i64 0, .int .i64 4]) (by simp [results, Try.results38, go_sem, x0, x1, x2]) rfl ?_
        exact FrGotP.err HE.out (by decide) rfl B5.out
set_option maxHeartbeats 2000000 in
set_option maxRecDepth 100000 in
theorem refGet_part (b0 o0 n c : Nat) (b : List Int) (w : World) (hr : Row .u8 w w.heap.size (some ⟨b0, o0, none⟩) b) (hn : b.length = n) (hc : n ≤ c) (h7 : 7 ≤ n) (hbad : ¬ frBad b) (hs6 : (b.length : Int) - 6 < frSays b) :
    Calls Try.prog 38 #[.slice (some ⟨b0, o0, none⟩) n c] w (FrGotP w b) := by
  have HE : Hid (frErr b = 1) := Lib.hid (by rw [frErr, if_neg (by omega), if_neg hbad, if_pos hs6])
  have bx := Bx.new w (.cells #[.int .u16 0, .int .u8 0, .slice none 0 0] 57)
  have HN := Lib.hid hn
  have HR := Lib.hid hr
  have hcl : ∀ i, i < n → ∀ W, Below w.heap.size w W → W.cell? ⟨b0, o0 + i, none⟩ = some (.int .u8 (nth b i)) := by
    intro i hi W hb
    obtain ⟨b9, o9, e9, hlt9, hc9⟩ := hr.at_ (i := i) (by omega)
    injection e9 with e9
    injection e9 with e91 e92
    subst e91 e92
    exact (hb.cell (p := ⟨b0, o0 + i, none⟩) hlt9).trans hc9
  have HCL := Lib.hid hcl
  have d2 := hcl 2 (by omega) _ bx.2
  have d3 := hcl 3 (by omega) _ bx.2
  have d4 := hcl 4 (by omega) _ bx.2
  have d5 := hcl 5 (by omega) _ bx.2
  have q2 := wf_nth8 hr.1 2
  have q3 := wf_nth8 hr.1 3
  have q4 := wf_nth8 hr.1 4
  have q5 := wf_nth8 hr.1 5
  have e1 : IntKind.i64.wrap (nth b 4 * 256) = nth b 4 * 256 := IntWalk.i64_in _ (by omega)
  have e2 : IntKind.i64.wrap (nth b 4 * 256 + nth b 5) = nth b 4 * 256 + nth b 5 := IntWalk.i64_in _ (by omega)
  have e3 : IntKind.i64.wrap (nth b 4) = nth b 4 := IntWalk.i64_in _ (by omega)
  have e4 : IntKind.i64.wrap (nth b 5) = nth b 5 := IntWalk.i64_in _ (by omega)
  have j4 : (4 : Int) < (n : Int) := by omega
  have j5 : (5 : Int) < (n : Int) := by omega
  have j3 : (3 : Int) < (n : Int) := by omega
  have j2 : (2 : Int) < (n : Int) := by omega
  have hcases : nth b 2 = 0 ∧ nth b 3 = 0 ∧ ¬ nth b 4 * 256 + nth b 5 < 2 ∧ ¬ 254 < nth b 4 * 256 + nth b 5 ∧ (n : Int) - 6 < nth b 4 * 256 + nth b 5 := by
    unfold frBad at hbad
    unfold frSays at hbad hs6
    omega
  obtain ⟨h2, h3, hs0, hs1, hs2⟩ := hcases
  have H2 := Lib.hid h2
  have H3 := Lib.hid h3
  clear hcl h2 h3 hr hn hbad hs6
  go_enter Try.func38, Try.ntmps38
  go_wp2
  go_quiet (fail)
  have bx2 := bx.drewN nq
  have P5 := Lib.hid (put3_heap bx2.1 (.int .u16 0) (.int .u8 0) (.slice none 0 0))
  have B5 := Lib.hid (below_put3 bx2.2 (Nat.le_refl _) (.int .u16 0) (.int .u8 0) (.slice none 0 0))
  have d2 := HCL.out 2 (by omega) _ bx2.2
  have d3 := HCL.out 3 (by omega) _ bx2.2
  obtain ⟨z0, z1, z2⟩ := cells3 bx2.1
  have zf := fun i => block_frozen _ _ i _ _ bx2.1
  generalize (w.alloc (.cells #[.int .u16 0, .int .u8 0, .slice none 0 0] 57)).drewN nq = w2 at *
  rw [H2.out] at d2
  rw [H3.out] at d3
  go_wp2
  (try simp only [Exit.inBlock, Exit.then])
  show bodyPost _ _ _ _ _ (put3 w2 w.heap.size (.int .u16 0) (.int .u8 0) (.slice none 0 0))
  generalize put3 w2 w.heap.size (.int .u16 0) (.int .u8 0) (.slice none 0 0) = w6 at *
  obtain ⟨x0, x1, x2⟩ := cells3 P5.out
  refine bodyPost_ret (v := .tuple #[.agg #[.int .u16 0, .int .u8 0, .slice none 0 0], .int .i64 0, .int .i64 1]) (by simp [results, Try.results38, go_sem, x0, x1, x2]) rfl ?_
  exact FrGotP.err HE.out (by decide) rfl B5.out
end Go.Proofs.Ytmbjcmagadekpaa
