/-
  The mathematics of layer 7's promises on whole lists: near, far.
-/
import Derived.Test.YtggijpfmcidpaaaBdMath
namespace Go.Proofs.Ytggijpfmcidpaaa
open Go.RowKit
set_option linter.unusedVariables false

def lastH : Hd → List Pt → Hd
  | h, [] => h
  | _, p :: r => lastH ⟨true, p.1, p.2⟩ r
theorem endH_last (d q : Int) (h : Hd) (l : List Pt) : endH d q h l = lastH h (runP d q h l) := by
  induction l generalizing h with
  | nil => rfl
  | cons p l ih =>
    have he : endH d q h (p :: l) = endH d q (stepH d q h p) l := rfl
    rw [he, ih, runP]
    cases ht : toldB d q h p
    · rw [stepH_f ht, cond_false]
    · rw [stepH_t ht, cond_true, lastH]
theorem lastH_eq (h : Hd) (r : List Pt) (hr : 0 < r.length) : lastH h r = ⟨true, ptX r (r.length - 1), ptY r (r.length - 1)⟩ := by
  induction r generalizing h with
  | nil => simp at hr
  | cons p r ih =>
    rw [lastH]
    cases r with
    | nil => rfl
    | cons s r =>
      rw [ih _ (by simp)]
      simp [ptX, ptY]
theorem runP_pos (d q : Int) (p : Pt) (l : List Pt) : 0 < (runP d q Hd.zero (p :: l)).length := by
  rw [runP]; show 0 < (p :: _).length; simp
theorem runP_pos' (d q : Int) (l : List Pt) (h : 0 < l.length) : 0 < (runP d q Hd.zero l).length := by
  cases l with
  | nil => simp at h
  | cons p l => exact runP_pos d q p l
theorem runP_pre (d q : Int) (l : List Pt) (k : Nat) : runP d q Hd.zero (l.take k) <+: runP d q Hd.zero l := by
  conv => rhs; rw [← List.take_append_drop k l]
  rw [runP_append]
  exact List.prefix_append _ _
theorem pre_x {a b : List Pt} (h : a <+: b) {j : Nat} (hj : j < a.length) : ptX b j = ptX a j ∧ ptY b j = ptY a j := by
  obtain ⟨c, rfl⟩ := h
  simp [ptX, ptY, List.getD_eq_getElem?_getD, List.getElem?_append_left hj]

/-- The times up to a place never fall. -/
def riseK (l : List Pt) : Nat → Bool
  | 0 => true
  | k + 1 => riseK l k && ((k == 0) || decide (ptY l (k - 1) ≤ ptY l k))
theorem riseK_zero (l : List Pt) : riseK l 0 = true := rfl
theorem riseK_one (l : List Pt) : riseK l 1 = true := rfl
theorem riseK_f {l : List Pt} {k : Nat} (h : riseK l k = false) : riseK l (k + 1) = false := by rw [riseK, h]; rfl
theorem riseK_t {l : List Pt} {k : Nat} (h : riseK l k = true) (hk : k ≠ 0) : riseK l (k + 1) = decide (ptY l (k - 1) ≤ ptY l k) := by
  rw [riseK, h, beq_false_of_ne hk]; rfl
theorem held_time (d q : Int) (l : List Pt) (k : Nat) (hk : k ≤ l.length) (hr : riseK l k = true) (hh : (endH d q Hd.zero (l.take k)).has = true) : 0 < k ∧ (endH d q Hd.zero (l.take k)).t ≤ ptY l (k - 1) := by
  induction k with
  | zero => cases hh
  | succ k ih =>
    refine ⟨by omega, ?_⟩
    have hkl : k < l.length := by omega
    rw [takeP_step l k hkl, endH_step] at hh ⊢
    rw [show k + 1 - 1 = k by omega]
    cases ht : toldB d q (endH d q Hd.zero (l.take k)) (ptX l k, ptY l k)
    · rw [stepH_f ht] at hh ⊢
      have hr0 : riseK l k = true := by
        cases h : riseK l k
        · rw [riseK_f h] at hr; cases hr
        · rfl
      obtain ⟨h1, h2⟩ := ih (by omega) hr0 hh
      rw [riseK_t hr0 (by omega), decide_eq_true_eq] at hr
      omega
    · rw [stepH_t ht]; exact Int.le_refl _
theorem far_step (d q : Int) (h : Hd) (p : Pt) : farB d p.1 (stepH d q h p).v = false := by
  cases ht : toldB d q h p
  · rw [stepH_f ht]
    unfold toldB at ht
    simp only [Bool.or_eq_false_iff] at ht
    exact ht.2.1
  · rw [stepH_t ht]
    unfold farB
    rw [distI_self]
    exact decide_eq_false (by omega)
theorem due_step {d q : Int} {h : Hd} {p : Pt} (hq : 0 < q) (hle : (stepH d q h p).t ≤ p.2) : farB (q - 1) p.2 (stepH d q h p).t = false := by
  unfold farB
  rw [show max (q - 1) 0 = q - 1 by omega]
  apply decide_eq_false
  cases ht : toldB d q h p
  · rw [stepH_f ht] at hle ⊢
    unfold toldB dueB at ht
    simp only [Bool.or_eq_false_iff, Bool.and_eq_false_iff, decide_eq_false_iff_not] at ht
    rcases ht.2.2 with h1 | h1 | h1 <;> omega
  · rw [stepH_t ht]
    show ¬ q - 1 < distI p.2 p.2
    rw [distI_self]; omega
theorem step_has (d q : Int) (h : Hd) (p : Pt) : (stepH d q h p).has = true := by
  cases ht : toldB d q h p
  · rw [stepH_f ht]
    unfold toldB at ht
    simp only [Bool.or_eq_false_iff, Bool.not_eq_false'] at ht
    exact ht.1
  · rw [stepH_t ht]

/-- What the round of BandNear asks. -/
theorem near_round (d q : Int) (l : List Pt) (hl : ∀ p ∈ l, Pt.Ok p) (i : Nat) (hi : i < l.length) :
    ∃ (told : Nat) (lx ly : Int), (runP d q Hd.zero (l.take (i + 1))).length = told ∧ (told = (runP d q Hd.zero (l.take i)).length ∨ told = (runP d q Hd.zero (l.take i)).length + 1) ∧ 1 ≤ told ∧ told ≤ (runP d q Hd.zero l).length
      ∧ (told = (runP d q Hd.zero (l.take i)).length + 1 → ptX (runP d q Hd.zero l) (runP d q Hd.zero (l.take i)).length = ptX l i ∧ ptY (runP d q Hd.zero l) (runP d q Hd.zero (l.take i)).length = ptY l i)
      ∧ ptX (runP d q Hd.zero l) (told - 1) = lx ∧ ptY (runP d q Hd.zero l) (told - 1) = ly ∧ farB d (ptX l i) lx = false ∧ (riseK l (i + 1) = true → 0 < q → farB (q - 1) (ptY l i) ly = false) ∧ Pt.Ok (lx, ly) := by
  have hs := runP_step d q Hd.zero (l.take i) (ptX l i, ptY l i)
  have he := endH_step d q Hd.zero (l.take i) (ptX l i, ptY l i)
  rw [← takeP_step l i hi] at hs he
  have hpos := runP_pos' d q (l.take (i + 1)) (by rw [List.length_take]; omega)
  have hpre := runP_pre d q l (i + 1)
  have hle := hpre.length_le
  have hlast := (endH_last d q Hd.zero (l.take (i + 1))).trans (lastH_eq _ _ hpos)
  obtain ⟨x1, y1⟩ := pre_x hpre (j := (runP d q Hd.zero (l.take (i + 1))).length - 1) (by omega)
  have hf := far_step d q (endH d q Hd.zero (l.take i)) (ptX l i, ptY l i)
  rw [← he, hlast] at hf
  have hlen : (runP d q Hd.zero (l.take (i + 1))).length = (runP d q Hd.zero (l.take i)).length ∨ (runP d q Hd.zero (l.take (i + 1))).length = (runP d q Hd.zero (l.take i)).length + 1 := by
    rw [hs, List.length_append]
    cases toldB d q (endH d q Hd.zero (l.take i)) (ptX l i, ptY l i)
    · left; rfl
    · right; rfl
  refine ⟨_, _, _, rfl, hlen, hpos, hle, fun ht => ?_, rfl, rfl, ?_, fun hr hq => ?_, ?_⟩
  · obtain ⟨x2, y2⟩ := pre_x hpre (j := (runP d q Hd.zero (l.take i)).length) (by omega)
    rw [x2, y2, hs]
    have hb : toldB d q (endH d q Hd.zero (l.take i)) (ptX l i, ptY l i) = true := by
      cases h : toldB d q (endH d q Hd.zero (l.take i)) (ptX l i, ptY l i)
      · rw [hs, h, cond_false, List.append_nil] at ht; omega
      · rfl
    rw [hb, cond_true]
    simp [ptX, ptY, List.getD_eq_getElem?_getD]
  · rw [x1]; exact hf
  · rw [y1]
    have ht := held_time d q l (i + 1) hi hr (by rw [he]; exact step_has _ _ _ _)
    rw [he] at ht
    have := due_step (d := d) (q := q) (h := endH d q Hd.zero (l.take i)) (p := (ptX l i, ptY l i)) hq (by simpa using ht.2)
    rw [← he, hlast] at this
    exact this
  · exact pt_ok (fun p hp => hl p ((runP_sub d q Hd.zero l).subset hp)) (by omega)

/-- With no Quiet: what is told one behind the other is far apart. -/
def chainP (d : Int) : Hd → List Pt → Prop
  | _, [] => True
  | h, p :: r => toldB d 0 h p = true ∧ chainP d ⟨true, p.1, p.2⟩ r
theorem due_zero (t y : Int) : dueB 0 t y = false := by unfold dueB; simp
theorem chain_run (d : Int) (h : Hd) (l : List Pt) : chainP d h (runP d 0 h l) := by
  induction l generalizing h with
  | nil => trivial
  | cons p l ih =>
    rw [runP]
    cases ht : toldB d 0 h p
    · rw [cond_false, stepH_f ht]; exact ih h
    · rw [cond_true, stepH_t ht]; exact ⟨ht, ih _⟩
theorem run_chain {d : Int} {h : Hd} {r : List Pt} (hc : chainP d h r) : runP d 0 h r = r := by
  induction r generalizing h with
  | nil => rfl
  | cons p r ih =>
    obtain ⟨h1, h2⟩ := hc
    rw [runP, h1, cond_true, stepH_t h1, ih h2]
theorem chain_far {d : Int} {h : Hd} {r : List Pt} (hc : chainP d h r) (i : Nat) (hi : i + 1 < r.length) : farB d (ptX r (i + 1)) (ptX r i) = true := by
  induction r generalizing h i with
  | nil => simp at hi
  | cons p r ih =>
    obtain ⟨h1, h2⟩ := hc
    cases i with
    | zero =>
      cases r with
      | nil => simp at hi
      | cons s r =>
        obtain ⟨h3, _⟩ := h2
        unfold toldB at h3
        rw [due_zero] at h3
        simpa [ptX] using h3
    | succ i => exact ih h2 i (by simpa using hi)
theorem run_again (d : Int) (l : List Pt) : runP d 0 Hd.zero (runP d 0 Hd.zero l) = runP d 0 Hd.zero l := run_chain (chain_run d Hd.zero l)
theorem run_none (d q : Int) (l : List Pt) : (l.length = 0) ↔ ((runP d q Hd.zero l).length = 0) := by
  constructor
  · intro h; rw [List.eq_nil_of_length_eq_zero h]; rfl
  · intro h; rcases Nat.eq_zero_or_pos l.length with h1 | h1
    · exact h1
    · have := runP_pos' d q l h1; omega
end Go.Proofs.Ytggijpfmcidpaaa
