/-
  The plain mathematics of words as bytes.
-/
import Derived.Test.YtojjcmkadmofdaaPkMath
namespace Go.Proofs.Ytojjcmkadmofdaa
open Go.RowKit

/-- Words as bytes, two a word, the higher first. -/
def wbytes : List Int → List Int
  | [] => []
  | x :: xs => be 2 x.toNat ++ wbytes xs
theorem wbytes_append (a b : List Int) : wbytes (a ++ b) = wbytes a ++ wbytes b := by
  induction a with
  | nil => rfl
  | cons x a ih => simp [wbytes, ih]
theorem wbytes_snoc (a : List Int) (x : Int) : wbytes (a ++ [x]) = wbytes a ++ be 2 x.toNat := by simp [wbytes_append, wbytes]
theorem wbytes_length (a : List Int) : (wbytes a).length = 2 * a.length := by
  induction a with
  | nil => rfl
  | cons x a ih => simp [wbytes, ih, be_length]; omega
theorem wbytes_wf (a : List Int) : ∀ x ∈ wbytes a, (Lit.int .u8 x).wf = true := by
  induction a with
  | nil => intro x hx; cases hx
  | cons y a ih => exact wf_append (be_wf _ _) ih
/-- The word that stands at a place. -/
def word (ys : List Int) (i : Nat) : Int := nth ys (2 * i) * 256 + nth ys (2 * i + 1)
/-- Bytes as words. -/
def wwords (ys : List Int) : List Int := (List.range (ys.length / 2)).map (word ys)
theorem wwords_length (ys : List Int) : (wwords ys).length = ys.length / 2 := by simp [wwords]
theorem wwords_nth (ys : List Int) (i : Nat) (h : i < ys.length / 2) : nth (wwords ys) i = word ys i := by
  rw [nth_eq _ _ (by rw [wwords_length]; exact h)]; simp [wwords]
theorem wf_word16 {n : Int} (h : 0 ≤ n ∧ n < 65536) : (Lit.int .u16 n).wf = true := by
  simp [Lit.wf, IntKind.min, IntKind.max, IntKind.signed, IntKind.bits]; omega
theorem word_bound (ys : List Int) (hw : ∀ x ∈ ys, (Lit.int .u8 x).wf = true) (i : Nat) (h : i < ys.length / 2) : (0 ≤ nth ys (2 * i) ∧ nth ys (2 * i) < 256) ∧ (0 ≤ nth ys (2 * i + 1) ∧ nth ys (2 * i + 1) < 256) :=
  ⟨wf_u8 (hw _ (nth_mem _ _ (by omega))), wf_u8 (hw _ (nth_mem _ _ (by omega)))⟩
theorem wwords_wf (ys : List Int) (hw : ∀ x ∈ ys, (Lit.int .u8 x).wf = true) : ∀ x ∈ wwords ys, (Lit.int .u16 x).wf = true := by
  intro x hx
  simp only [wwords, List.mem_map, List.mem_range] at hx
  obtain ⟨i, hi, rfl⟩ := hx
  have := word_bound ys hw i hi
  exact wf_word16 (by unfold word; omega)
theorem bval_two (ys : List Int) (i : Nat) (h : i + 2 ≤ ys.length) : bval ((ys.drop i).take 2) = (nth ys i).toNat * 256 + (nth ys (i + 1)).toNat := by
  have e : (ys.drop i).take 2 = [nth ys i, nth ys (i + 1)] := by
    rw [List.drop_eq_getElem_cons (by omega), List.drop_eq_getElem_cons (by omega), nth_eq ys i (by omega), nth_eq ys (i + 1) (by omega)]
    rfl
  rw [e]
  simp [bval]
theorem bval_word (ys : List Int) (hw : ∀ x ∈ ys, (Lit.int .u8 x).wf = true) (i : Nat) (h : i < ys.length / 2) : ((bval ((ys.drop (2 * i)).take 2) : Nat) : Int) = word ys i := by
  have := word_bound ys hw i h
  rw [bval_two ys (2 * i) (by omega), word]
  omega
theorem be_two (v : Nat) : be 2 v = [((v / 256 % 256 : Nat) : Int), ((v % 256 : Nat) : Int)] := by simp [be]
theorem wwords_take (ys : List Int) (k : Nat) (h : k < ys.length / 2) : (wwords ys).take (k + 1) = (wwords ys).take k ++ [word ys k] := by
  rw [take_step _ _ (by rw [wwords_length]; exact h), wwords_nth ys k h]
theorem word_cons (a b : Int) (ys : List Int) (i : Nat) : word (a :: b :: ys) (i + 1) = word ys i := by
  simp only [word, nth, List.getD_eq_getElem?_getD, show 2 * (i + 1) = 2 * i + 1 + 1 by omega, List.getElem?_cons_succ]
theorem wwords_cons (a b : Int) (ys : List Int) : wwords (a :: b :: ys) = (a * 256 + b) :: wwords ys := by
  unfold wwords
  rw [show (a :: b :: ys).length / 2 = ys.length / 2 + 1 by simp; omega, List.range_succ_eq_map, List.map_cons, List.map_map]
  congr 1
theorem wwords_wbytes (xs : List Int) (h : ∀ x ∈ xs, (Lit.int .u16 x).wf = true) : wwords (wbytes xs) = xs := by
  induction xs with
  | nil => rfl
  | cons x xs ih =>
    have hx := wf_u16 (h x (by simp))
    rw [wbytes, be_two, List.cons_append, List.cons_append, List.nil_append, wwords_cons, ih (fun y hy => h y (by simp [hy]))]
    congr 1
    omega
theorem wbytes_wwords : ∀ (ys : List Int), (∀ x ∈ ys, (Lit.int .u8 x).wf = true) → ys.length % 2 = 0 → wbytes (wwords ys) = ys
  | [], _, _ => rfl
  | [a], _, h => by simp at h
  | a :: b :: ys, hw, h => by
    have ha := wf_u8 (hw a (by simp))
    have hb := wf_u8 (hw b (by simp))
    rw [wwords_cons, wbytes, be_two, wbytes_wwords ys (fun x hx => hw x (by simp [hx])) (by simp at h; omega)]
    have e1 : (((a * 256 + b).toNat / 256 % 256 : Nat) : Int) = a := by omega
    have e2 : (((a * 256 + b).toNat % 256 : Nat) : Int) = b := by omega
    rw [e1, e2]
    rfl
end Go.Proofs.Ytojjcmkadmofdaa
