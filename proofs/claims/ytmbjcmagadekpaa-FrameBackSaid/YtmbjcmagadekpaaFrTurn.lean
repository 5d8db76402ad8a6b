/-
  What is framed on a line is opened as it was; turned bits are seen.
-/
import Derived.Test.YtmbjcmagadekpaaFrOpen
import Derived.Test.YtmbjcmagadekpaaSeenB
namespace Go.Proofs.Ytmbjcmagadekpaa
open Go.RowKit
set_option linter.unusedVariables false

theorem rtuE_zero {u : Int} {l : List Int} (h : rtuE u l = 0) : (1 ≤ u ∧ u ≤ 247) ∧ frChk l = 0 := by
  unfold rtuE at h
  split at h
  · exact ⟨by assumption, h⟩
  · cases h
theorem wf_cons {u : Int} {l : List Int} (hl : ∀ x ∈ l, (Lit.int .u8 x).wf = true) (hu : (Lit.int .u8 u).wf = true) : ∀ x ∈ u :: l, (Lit.int .u8 x).wf = true :=
  fun x hx => (List.mem_cons.1 hx).elim (fun e => e ▸ hu) (hl x)
theorem sealed_len {u : Int} {l : List Int} (h : rtuE u l = 0) : (sealed16 (u :: l)).length = l.length + 3 ∧ 4 ≤ l.length + 3 ∧ l.length + 3 ≤ 256 := by
  have h1 := frChk_le (rtuE_zero h).2
  exact ⟨by rw [sealed16_length, List.length_cons], by omega, by omega⟩
theorem ort_sealed {u : Int} {l : List Int} (hl : ∀ x ∈ l, (Lit.int .u8 x).wf = true) (hu : (Lit.int .u8 u).wf = true) (h : rtuE u l = 0) : ortE (sealed16 (u :: l)) = 0 ∧ ortU (sealed16 (u :: l)) = u ∧ ortL (sealed16 (u :: l)) = l := by
  have h1 := rtuE_zero h
  obtain ⟨h2, h3, h4⟩ := sealed_len h
  have h5 : nth (sealed16 (u :: l)) 0 = u := by rw [sealed16, nth_left _ _ _ (by simp)]; rfl
  have h6 := ort_zero (b := sealed16 (u :: l)) (by omega) (by omega) (sealed16_right _ (wf_cons hl hu)) (by rw [h5]; exact h1.1)
  refine ⟨h6, by rw [ortU, if_pos h6, h5], ?_⟩
  rw [ortL, if_pos h6, h2, show l.length + 3 - 2 = (u :: l).length by simp, sealed16, List.take_left]
  rfl
theorem Turned.refused {xs ys : List Int} {at_ mask n : Nat} (h : Turned (sealed16 xs) ys at_ mask 16 n) (hx : ∀ x ∈ xs, (Lit.int .u8 x).wf = true) (hn : n ≠ 0) : ¬ right16 ys := by
  have hw := sealed16_wf hx
  have hl := sealed16_length xs
  intro hr
  rw [right16_iff ys h.wf (by rw [h.len]; omega)] at hr
  have h0 := (right16_iff _ hw (by omega)).1 (sealed16_right xs hx)
  exact h.seen (b := 15) hw hn 40961 65535 (by decide) (by decide) (Nat.mod_lt _ (by decide)) (by rw [hr, h0])
theorem ort_turned {u : Int} {l ys : List Int} {at_ mask n : Nat} (ht : Turned (sealed16 (u :: l)) ys at_ mask 16 n) (hl : ∀ x ∈ l, (Lit.int .u8 x).wf = true) (hu : (Lit.int .u8 u).wf = true) (h : rtuE u l = 0) (hn : n ≠ 0) : ortE ys = 5 ∧ ortU ys = 0 ∧ ortL ys = [] := by
  obtain ⟨h2, h3, h4⟩ := sealed_len h
  have h5 := ort_wrong (b := ys) (by rw [ht.len]; omega) (by rw [ht.len]; omega) (ht.refused (wf_cons hl hu) hn)
  exact ⟨h5, by rw [ortU, if_neg (by rw [h5]; decide)], by rw [ortL, if_neg (by rw [h5]; decide)]⟩
theorem Bx.set {w0 w : World} {g j : Nat} {o : Obj} (h : Bx w0 g o w) (hg : g < j) (i : Nat) (v : Value) : Bx w0 g o (w.setCell ⟨j, i, none⟩ v) :=
  ⟨(Below.heap_setCell w ⟨j, i, none⟩ v g (by simp; omega)).trans h.1, below_setCell h.2 (by omega) i v⟩
end Go.Proofs.Ytmbjcmagadekpaa
