/-
  The mathematics of layer 7: distances, what is told, what is held.
-/
import Derived.Test.YtmakegbkgiajdaaPlain
namespace Go.Proofs.Ytmakegbkgiajdaa
open Go.RowKit
set_option linter.unusedVariables false

/-- The true distance of two numbers. -/
def distI (a b : Int) : Int := max a b - min a b
theorem distI_nonneg (a b : Int) : 0 ≤ distI a b := by unfold distI; omega
theorem distI_self (a : Int) : distI a a = 0 := by unfold distI; omega

/-- What is held, as plain data. -/
structure Hd where
  has : Bool
  v : Int
  t : Int
def Hd.zero : Hd := ⟨false, 0, 0⟩
abbrev Pt := Int × Int

def farB7 (d a b : Int) : Bool := decide (max d 0 < distI a b)
def dueB (q t y : Int) : Bool := decide (0 < q) && (decide (t ≤ y) && decide (q ≤ distI y t))
def toldB (d q : Int) (h : Hd) (p : Pt) : Bool := !h.has || (farB7 d p.1 h.v || dueB q h.t p.2)
def stepH (d q : Int) (h : Hd) (p : Pt) : Hd := bif toldB d q h p then ⟨true, p.1, p.2⟩ else h
def endH (d q : Int) (h : Hd) (l : List Pt) : Hd := l.foldl (stepH d q) h
def runP (d q : Int) : Hd → List Pt → List Pt
  | _, [] => []
  | h, p :: l => bif toldB d q h p then p :: runP d q (stepH d q h p) l else runP d q (stepH d q h p) l
def chkB (d q : Int) : Int := if 0 ≤ d ∧ d ≤ 1099511627776 ∧ 0 ≤ q ∧ q ≤ 1099511627776 then 0 else 26

theorem runP_append (d q : Int) (h : Hd) (a b : List Pt) : runP d q h (a ++ b) = runP d q h a ++ runP d q (endH d q h a) b := by
  induction a generalizing h with
  | nil => rfl
  | cons p a ih =>
    rw [List.cons_append, runP, runP, ih]
    have he : endH d q h (p :: a) = endH d q (stepH d q h p) a := rfl
    rw [he]
    cases toldB d q h p <;> rfl
theorem endH_append (d q : Int) (h : Hd) (a b : List Pt) : endH d q h (a ++ b) = endH d q (endH d q h a) b := List.foldl_append ..
theorem runP_one (d q : Int) (h : Hd) (p : Pt) : runP d q h [p] = bif toldB d q h p then [p] else [] := rfl
theorem runP_step (d q : Int) (h : Hd) (a : List Pt) (p : Pt) : runP d q h (a ++ [p]) = runP d q h a ++ bif toldB d q (endH d q h a) p then [p] else [] := by rw [runP_append, runP_one]
theorem endH_step (d q : Int) (h : Hd) (a : List Pt) (p : Pt) : endH d q h (a ++ [p]) = stepH d q (endH d q h a) p := by rw [endH_append]; rfl
theorem runP_sub (d q : Int) (h : Hd) (l : List Pt) : (runP d q h l).Sublist l := by
  induction l generalizing h with
  | nil => exact List.Sublist.slnil
  | cons p l ih =>
    rw [runP]
    cases toldB d q h p
    · exact (ih _).cons _
    · exact (ih _).cons_cons _
theorem runP_len (d q : Int) (h : Hd) (l : List Pt) : (runP d q h l).length ≤ l.length := (runP_sub d q h l).length_le

/-- Points as a row of numbers. -/
def flP (l : List Pt) : List Int := l.flatMap fun p => [p.1, p.2]
theorem flP_nil : flP [] = [] := rfl
theorem flP_cons (p : Pt) (l : List Pt) : flP (p :: l) = p.1 :: p.2 :: flP l := rfl
theorem flP_append (a b : List Pt) : flP (a ++ b) = flP a ++ flP b := by simp [flP]
theorem flP_len (l : List Pt) : (flP l).length = 2 * l.length := by
  induction l with
  | nil => rfl
  | cons p l ih => rw [flP_cons, List.length_cons, List.length_cons, List.length_cons, ih]; omega
/-- The k-th point. -/
def ptX (l : List Pt) (k : Nat) : Int := (l.getD k (0, 0)).1
def ptY (l : List Pt) (k : Nat) : Int := (l.getD k (0, 0)).2
theorem pt_eq (l : List Pt) (k : Nat) (h : k < l.length) : l[k] = (ptX l k, ptY l k) := by simp [ptX, ptY, List.getD_eq_getElem?_getD, List.getElem?_eq_getElem h]
theorem nth_cons_succ (x : Int) (l : List Int) (i : Nat) : nth (x :: l) (i + 1) = nth l i := rfl
theorem flP_x (l : List Pt) (k : Nat) : nth (flP l) (2 * k) = ptX l k := by
  induction l generalizing k with
  | nil => rfl
  | cons p l ih =>
    cases k with
    | zero => rfl
    | succ k =>
      rw [flP_cons, show 2 * (k + 1) = 2 * k + 1 + 1 by omega, nth_cons_succ, nth_cons_succ, ih]; rfl
theorem flP_y (l : List Pt) (k : Nat) : nth (flP l) (2 * k + 1) = ptY l k := by
  induction l generalizing k with
  | nil => rfl
  | cons p l ih =>
    cases k with
    | zero => rfl
    | succ k =>
      rw [flP_cons, show 2 * (k + 1) + 1 = 2 * k + 1 + 1 + 1 by omega, nth_cons_succ, nth_cons_succ, ih]; rfl
theorem flP_take (l : List Pt) (k : Nat) : (flP l).take (2 * k) = flP (l.take k) := by
  induction l generalizing k with
  | nil => simp [flP]
  | cons p l ih =>
    cases k with
    | zero => rfl
    | succ k =>
      rw [flP_cons, show 2 * (k + 1) = 2 * k + 1 + 1 by omega, List.take_succ_cons, List.take_succ_cons, ih]; rfl
theorem takeP_step (l : List Pt) (k : Nat) (h : k < l.length) : l.take (k + 1) = l.take k ++ [(ptX l k, ptY l k)] := by
  rw [List.take_succ_eq_append_getElem h, pt_eq l k h]
def Pt.Ok (p : Pt) : Prop := (-9223372036854775808 ≤ p.1 ∧ p.1 < 9223372036854775808) ∧ (-9223372036854775808 ≤ p.2 ∧ p.2 < 9223372036854775808)
theorem pt_ok {l : List Pt} (h : ∀ p ∈ l, Pt.Ok p) {k : Nat} (hk : k < l.length) : Pt.Ok (ptX l k, ptY l k) := by
  rw [← pt_eq l k hk]; exact h _ (List.getElem_mem hk)
/-- Every row of numbers, an even count of them, is a row of points. -/
theorem flP_of : ∀ (n : Nat) (xs : List Int), xs.length = 2 * n → ∃ l : List Pt, flP l = xs ∧ l.length = n
  | 0, xs, h => ⟨[], by rw [List.eq_nil_of_length_eq_zero (by omega : xs.length = 0)]; rfl, rfl⟩
  | n + 1, [], h => by simp at h
  | n + 1, [x], h => by simp at h; omega
  | n + 1, x :: y :: xs, h => by
    obtain ⟨l, h1, h2⟩ := flP_of n xs (by simp at h; omega)
    exact ⟨(x, y) :: l, by rw [flP_cons, h1], by simp [h2]⟩
theorem flP_mem {l : List Pt} {p : Pt} (h : p ∈ l) : p.1 ∈ flP l ∧ p.2 ∈ flP l := by
  simp only [flP, List.mem_flatMap]
  exact ⟨⟨p, h, by simp⟩, ⟨p, h, by simp⟩⟩
theorem flP_wf {l : List Pt} (h : ∀ p ∈ l, Pt.Ok p) : ∀ x ∈ flP l, (Lit.int .i64 x).wf = true := by
  intro x hx
  simp only [flP, List.mem_flatMap] at hx
  obtain ⟨p, hp, hx⟩ := hx
  have := h p hp
  simp only [Pt.Ok] at this
  simp only [List.mem_cons, List.not_mem_nil, or_false] at hx
  rcases hx with rfl | rfl <;> (simp [Lit.wf, IntKind.min, IntKind.max, IntKind.signed, IntKind.bits]; omega)
theorem flP_ok {l : List Pt} (h : ∀ x ∈ flP l, (Lit.int .i64 x).wf = true) : ∀ p ∈ l, Pt.Ok p := fun p hp => ⟨wf_i64 (h _ (flP_mem hp).1), wf_i64 (h _ (flP_mem hp).2)⟩
/-- What is held behind points that fit, fits. -/
theorem stepH_t {d q : Int} {h : Hd} {p : Pt} (ht : toldB d q h p = true) : stepH d q h p = ⟨true, p.1, p.2⟩ := by rw [stepH, ht]; rfl
theorem stepH_f {d q : Int} {h : Hd} {p : Pt} (ht : toldB d q h p = false) : stepH d q h p = h := by rw [stepH, ht]; rfl
def Hd.Ok (h : Hd) : Prop := Pt.Ok (h.v, h.t)
theorem stepH_ok {d q : Int} {h : Hd} {p : Pt} (hh : h.Ok) (hp : Pt.Ok p) : (stepH d q h p).Ok := by
  cases ht : toldB d q h p
  · rw [stepH_f ht]; exact hh
  · rw [stepH_t ht]; exact hp
theorem endH_ok {d q : Int} (l : List Pt) {h : Hd} (hh : h.Ok) (hl : ∀ p ∈ l, Pt.Ok p) : (endH d q h l).Ok := by
  induction l generalizing h with
  | nil => exact hh
  | cons p l ih => exact ih (stepH_ok hh (hl p (by simp))) (fun r hr => hl r (by simp [hr]))
theorem Hd.zero_ok : Hd.zero.Ok := by unfold Hd.Ok Hd.zero Pt.Ok; simp
end Go.Proofs.Ytmakegbkgiajdaa
