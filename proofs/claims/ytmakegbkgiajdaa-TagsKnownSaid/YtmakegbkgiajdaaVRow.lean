/-
  Rows of cells of any kind in memory, and lists of structs laid out in them.
-/
import Derived.Test.YtmakegbkgiajdaaMore
import Derived.Deep.MidRow
namespace Go.Proofs.Ytmakegbkgiajdaa
open Go.RowKit
set_option linter.unusedVariables false

/-- A slice at A whose cells are the values vs, in blocks below B (nil let in). -/
def VRow (w : World) (B : Nat) (A : Option Addr) (vs : List Value) : Prop :=
  0 < vs.length → ∃ b o, A = some ⟨b, o, none⟩ ∧ b < B ∧ ∀ i v, vs[i]? = some v → w.cell? ⟨b, o + i, none⟩ = some v
theorem VRow.nil (w : World) (B : Nat) (A : Option Addr) : VRow w B A [] := fun h => absurd h (by simp)
theorem VRow.more {w : World} {B B' : Nat} {A : Option Addr} {vs : List Value} (h : VRow w B A vs) (hB : B ≤ B') : VRow w B' A vs := fun hn => by
  obtain ⟨b, o, e, hb, hc⟩ := h hn
  exact ⟨b, o, e, by omega, hc⟩
theorem VRow.below {w w' : World} {B : Nat} {A : Option Addr} {vs : List Value} (h : VRow w B A vs) (hb : Below B w w') : VRow w' B A vs := fun hn => by
  obtain ⟨b, o, e, hlt, hc⟩ := h hn
  exact ⟨b, o, e, hlt, fun i v hv => (hb.cell (p := ⟨b, o + i, none⟩) hlt).trans (hc i v hv)⟩
theorem VRow.alloc {w : World} {B : Nat} {A : Option Addr} {vs : List Value} (h : VRow w B A vs) (hB : B ≤ w.heap.size) (o : Obj) : VRow (w.alloc o) B A vs := h.below ((Below.refl _ _).alloc hB o)
theorem VRow.drewN {w : World} {B : Nat} {A : Option Addr} {vs : List Value} (h : VRow w B A vs) (n : Nat) : VRow (w.drewN n) B A vs := h
theorem VRow.of_block {w : World} {g : Nat} {t : TypeId} {fr : Nat × Nat} {cs : Array Value} (hg : w.heap[g]? = some (.cells cs t fr)) (vs : List Value) (hp : vs <+: cs.toList) : VRow w w.heap.size (some ⟨g, 0, none⟩) vs := fun hn => by
  refine ⟨g, 0, rfl, block_lt hg, fun i v hv => ?_⟩
  obtain ⟨r, hr⟩ := hp
  have hi : i < vs.length := (List.getElem?_eq_some_iff.1 hv).1
  rw [Nat.zero_add, cell_of_row w g i _ _ _ hg, ← Array.getElem?_toList, ← hr, List.getElem?_append_left hi, hv]
theorem VRow.new (w : World) (t : TypeId) (vs : List Value) : VRow (w.alloc (.cells vs.toArray t)) (w.alloc (.cells vs.toArray t)).heap.size (some ⟨w.heap.size, 0, none⟩) vs :=
  VRow.of_block (heap_alloc_new w _) vs (by simp)
theorem VRow.front {w : World} {B : Nat} {A : Option Addr} {vs ws : List Value} (h : VRow w B A vs) (hp : ws <+: vs) : VRow w B A ws := fun hn => by
  obtain ⟨r, rfl⟩ := hp
  obtain ⟨b, o, e, hb, hc⟩ := h (by rw [List.length_append]; omega)
  exact ⟨b, o, e, hb, fun i v hv => hc i v (by rw [List.getElem?_append_left (List.getElem?_eq_some_iff.1 hv).1]; exact hv)⟩
theorem VRow.of_own {w : World} {base size n : Nat} {e : TypeId} {v : Value} {xs : List Value} (h : w.ownsRow base e size v n xs) :
    ∃ A c, v = .slice A n c ∧ VRow w w.heap.size A xs ∧ n ≤ c ∧ c ≤ maxLen := by
  obtain ⟨hl, ⟨rfl, rfl⟩ | ⟨g, cap, cur, rfl, h1, h2, h3, h4, h5, h6⟩⟩ := h
  · have hx : xs = [] := List.eq_nil_of_length_eq_zero (by simpa using hl)
    subst hx
    exact ⟨none, 0, rfl, VRow.nil _ _ _, Nat.le_refl _, Nat.zero_le _⟩
  · exact ⟨_, cap, rfl, VRow.of_block h2 xs (by rw [← h6]; exact List.take_prefix _ _), h3, h4⟩

/-- The cells of a block that is known whole, as a range. -/
theorem rangeB {w : World} {g : Nat} {cs : List Value} {t : TypeId} (h : w.heap[g]? = some (.cells cs.toArray t (0, 0))) : w.rangeAt g 0 cs := fun j v hv => by
  rw [Nat.zero_add, cell_of_row w g j _ _ _ h, ← hv]; simp
theorem rangeBelow {w w' : World} {B b o : Nat} {cs : List Value} (h : w.rangeAt b o cs) (hb : Below B w w') (hlt : b < B) : w'.rangeAt b o cs := fun j v hv => (hb.cell (p := ⟨b, o + j, none⟩) hlt).trans (h j v hv)

section
variable {α : Type} {C : α → List Value} {k : Nat}
/-- The cells of a list of structs, one behind the other. -/
def flatV (C : α → List Value) (l : List α) : List Value := l.flatMap C
theorem flatV_nil : flatV C [] = [] := rfl
theorem flatV_cons (a : α) (l : List α) : flatV C (a :: l) = C a ++ flatV C l := rfl
theorem flatV_append (l m : List α) : flatV C (l ++ m) = flatV C l ++ flatV C m := by simp [flatV]
theorem flatV_one (a : α) : flatV C [a] = C a := by simp [flatV]
theorem flatV_take (l : List α) (n : Nat) : flatV C (l.take n) <+: flatV C l := ⟨flatV C (l.drop n), by rw [← flatV_append, List.take_append_drop]⟩
variable (hC : ∀ a, (C a).length = k)
include hC
theorem flatV_len (l : List α) : (flatV C l).length = l.length * k := by
  induction l with
  | nil => simp [flatV]
  | cons a l ih => rw [flatV_cons, List.length_append, ih, hC, List.length_cons, Nat.succ_mul]; omega
theorem flatV_get (l : List α) (i : Nat) (h : i < l.length) (j : Nat) (hj : j < k) : (flatV C l)[i * k + j]? = (C l[i])[j]? := by
  induction l generalizing i with
  | nil => simp at h
  | cons a l ih =>
    rw [flatV_cons]
    cases i with
    | zero => rw [Nat.zero_mul, Nat.zero_add, List.getElem?_append_left (by rw [hC]; exact hj)]; rfl
    | succ i =>
      rw [show (i + 1) * k + j = k + (i * k + j) by rw [Nat.succ_mul]; omega]
      rw [List.getElem?_append_right (by rw [hC]; omega), hC, Nat.add_sub_cancel_left]
      exact ih i (by simpa using h)
/-- The cells of one struct of a list in memory. -/
theorem VRow.elem {w : World} {B : Nat} {A : Option Addr} {l : List α} (h : VRow w B A (flatV C l)) (hk : 0 < k) {i : Nat} (hi : i < l.length) :
    ∃ b o, A = some ⟨b, o, none⟩ ∧ b < B ∧ ∀ j v, (C l[i])[j]? = some v → w.cell? ⟨b, o + i * k + j, none⟩ = some v := by
  have hpos : 0 < (flatV C l).length := by rw [flatV_len hC]; exact Nat.mul_pos (by omega) hk
  obtain ⟨b, o, e, hb, hc⟩ := h hpos
  refine ⟨b, o, e, hb, fun j v hv => ?_⟩
  have hj : j < k := by have := (List.getElem?_eq_some_iff.1 hv).1; rw [hC] at this; exact this
  rw [Nat.add_assoc]
  exact hc _ _ (by rw [flatV_get hC l i hi j hj]; exact hv)
theorem VRow.range {w : World} {B : Nat} {A : Option Addr} {l : List α} (h : VRow w B A (flatV C l)) (hk : 0 < k) {i : Nat} (hi : i < l.length) :
    ∃ b o, A = some ⟨b, o, none⟩ ∧ b < B ∧ w.rangeAt b (o + i * k) (C l[i]) := h.elem hC hk hi
end

/-- Stores of several values, one behind the other, into an array. -/
def setL (arr : Array Value) (p : Nat) : List Value → Array Value
  | [] => arr
  | v :: vs => setL (arr.setIfInBounds p v) (p + 1) vs
theorem setL_size (arr : Array Value) (p : Nat) (vs : List Value) : (setL arr p vs).size = arr.size := by
  induction vs generalizing arr p with
  | nil => rfl
  | cons v vs ih => rw [setL, ih]; simp
theorem setL_get (arr : Array Value) (p : Nat) (vs : List Value) (i : Nat) (h : i < p) : (setL arr p vs)[i]? = arr[i]? := by
  induction vs generalizing arr p with
  | nil => rfl
  | cons v vs ih => rw [setL, ih _ _ (by omega), Array.getElem?_setIfInBounds_ne (by omega)]
theorem setL_at (arr : Array Value) (p : Nat) (vs : List Value) (j : Nat) (v : Value) (hv : vs[j]? = some v) (h : p + j < arr.size) : (setL arr p vs)[p + j]? = some v := by
  induction vs generalizing arr p j with
  | nil => simp at hv
  | cons u vs ih =>
    rw [setL]
    cases j with
    | zero =>
      rw [setL_get _ _ _ _ (by omega)]
      simp only [List.getElem?_cons_zero, Option.some.injEq] at hv
      subst hv
      simp only [Nat.add_zero] at h ⊢
      simp [h]
    | succ j =>
      rw [show p + (j + 1) = p + 1 + j by omega]
      exact ih _ _ j (by simpa using hv) (by simp; omega)
/-- A list that is being laid down, struct by struct. -/
theorem setL_take (arr : Array Value) (p : Nat) (vs : List Value) (h : p + vs.length ≤ arr.size) : (setL arr p vs).toList.take (p + vs.length) = arr.toList.take p ++ vs := by
  refine List.ext_getElem? fun i => ?_
  by_cases h1 : i < p
  · rw [List.getElem?_take_of_lt (by omega), List.getElem?_append_left (by rw [List.length_take, Array.length_toList]; omega), List.getElem?_take_of_lt h1, Array.getElem?_toList, Array.getElem?_toList, setL_get _ _ _ _ h1]
  · by_cases h2 : i < p + vs.length
    · obtain ⟨j, rfl⟩ : ∃ j, i = p + j := ⟨i - p, by omega⟩
      have hj : j < vs.length := by omega
      rw [List.getElem?_take_of_lt h2, Array.getElem?_toList, setL_at _ _ _ j vs[j] (List.getElem?_eq_getElem hj) (by omega), List.getElem?_append_right (by rw [List.length_take, Array.length_toList]; omega), List.length_take, Array.length_toList, show p + j - min p arr.size = j by omega, List.getElem?_eq_getElem hj]
    · have e1 : (setL arr p vs).toList.length = arr.size := by rw [Array.length_toList, setL_size]
      have e2 : ((setL arr p vs).toList.take (p + vs.length)).length ≤ p + vs.length := List.length_take_le _ _
      have e3 : (arr.toList.take p ++ vs).length ≤ p + vs.length := by rw [List.length_append]; have := List.length_take_le p arr.toList; omega
      rw [List.getElem?_eq_none (by omega), List.getElem?_eq_none (by omega)]
end Go.Proofs.Ytmakegbkgiajdaa
