/-
  Contracts of Put and Get of package pack and of the document's answer to them.
-/
import Derived.Test.YtemjcgmoacnnfaaPkLay
import Derived.Test.YtemjcgmoacnnfaaMore
namespace Go.Proofs.Ytemjcgmoacnnfaa
open Go.RowKit
set_option linter.unusedVariables false

/-- A call returns a pair: no list, and an error. -/
def Errs (n : Int) (w : World) (e : Ending) (w' : World) : Prop := e = .returned (.tuple #[.slice none 0 0, .int .i64 n]) ∧ w = w'
/-- A call returns a pair: a list that fills the first new block, and no error. -/
def Opens (w : World) (l : List Int) (m : Nat) (e : Ending) (w' : World) : Prop :=
  e = .returned (.tuple #[.slice (some ⟨w.heap.size, 0, none⟩) m m, .int .i64 0]) ∧ w'.heap[w.heap.size]? = some (.cells (blk .u8 l) 5 (0, 0)) ∧ Below w.heap.size w w'
/-- A call returns a pair: a list of its own, and no error. -/
def Makes2 (w : World) (xs : List Int) (e : Ending) (w' : World) : Prop := ∃ v, e = .returned (.tuple #[v, .int .i64 0]) ∧ Own .u8 5 w' w.heap.size v xs ∧ Below w.heap.size w w'

theorem info_size : (Try.prog.info? 5).map (·.size) = some 1 := by kernel_rfl
theorem setRow_alloc (w : World) (cur cs : Array Value) (t : TypeId) : (w.alloc (.cells cur t)).setRow w.heap.size cs = w.alloc (.cells cs t) := by
  have h : ((w.alloc (.cells cur t)).setRow w.heap.size cs).heap = (w.alloc (.cells cs t)).heap := by
    apply Array.ext_getElem?
    intro i
    by_cases hi : i = w.heap.size
    · subst hi
      rw [setRow_heap _ _ _ _ _ _ (heap_alloc_new w (.cells cur t)), heap_alloc_new]
    · rw [setRow_other _ _ _ _ hi]
      by_cases h2 : i < w.heap.size
      · rw [Below.heap_alloc w _ i h2, Below.heap_alloc w _ i h2]
      · rw [Array.getElem?_eq_none (by simp; omega), Array.getElem?_eq_none (by simp; omega)]
  exact congrArg (fun H => ({ w with heap := H } : World)) h
/-- 'copy' into a new block, as long a row as it holds. -/
theorem copy_new {P : Program} (k : IntKind) (w : World) (dT ty e : TypeId) (A : Option Addr) (m c q : Nat) (Z xs : List Int) (hu : P.underlying dT = some (.slice e)) (hs : (P.info? e).map (·.size) = some 1)
    (hr : Row k w w.heap.size A xs) (hm : xs.length = m) (hq : Z.length = q) (hz : m ≤ q) (t : TypeId) :
    (Builtin.copy_ #[dT, dT] ty #[.slice (some ⟨w.heap.size, 0, none⟩) q q, .slice A m c]).run P (w.alloc (.cells (blk k Z) t)) = .ok (.int .i64 m) (w.alloc (.cells (blk k (xs ++ Z.drop m)) t)) := by
  rcases Nat.eq_zero_or_pos m with h0 | h0
  · subst h0
    have : xs = [] := List.eq_nil_of_length_eq_zero hm
    subst this
    have := run_copy_none (P := P) (w.alloc (.cells (blk k Z) t)) dT dT ty e (some ⟨w.heap.size, 0, none⟩) A q q 0 c hu hs (Nat.zero_min _)
    simpa [goInt] using this
  · obtain ⟨b, o, rfl, _, hc⟩ := (hr.alloc (Nat.le_refl _) (.cells (blk k Z) t)).2 (by omega)
    have := run_copy_row (P := P) (w.alloc (.cells (blk k Z) t)) dT dT ty e w.heap.size 0 q q ⟨b, o, none⟩ m c (blk k Z) t (xs.map (Value.int k)) hu hs (heap_alloc_new w _)
      (by rw [List.length_map, hm]; exact (Nat.min_eq_left hz).symm) (fun j v hj => by
        rw [List.getElem?_map] at hj
        by_cases hlt : j < xs.length
        · rw [List.getElem?_eq_getElem hlt] at hj
          rw [Go.WideShapes.add_plain, hc j hlt, nth_eq xs j hlt]
          exact hj
        · rw [List.getElem?_eq_none (by omega)] at hj
          cases hj) (by rw [List.length_map, blk_size]; omega) (ints_oneCell _ _)
    rw [this, setRow_alloc]
    simp [goInt, hm, blk, List.map_drop]

end Go.Proofs.Ytemjcgmoacnnfaa
