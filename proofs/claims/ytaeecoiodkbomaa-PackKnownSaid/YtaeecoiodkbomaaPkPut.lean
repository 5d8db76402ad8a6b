/-
  Contracts of Put and Get of package pack and of the document's answer to them.
-/
import Derived.Test.YtaeecoiodkbomaaPkNum
namespace Go.Proofs.Ytaeecoiodkbomaa
open Go.RowKit
set_option linter.unusedVariables false

/-- A call returns a pair: no list, and an error. -/
def Errs (n : Int) (w : World) (e : Ending) (w' : World) : Prop := e = .returned (.tuple #[.slice none 0 0, .int .i64 n]) ∧ w = w'
/-- A call returns a pair: a list that fills the first new block, and no error. -/
def Opens (w : World) (l : List Int) (m : Nat) (e : Ending) (w' : World) : Prop :=
  e = .returned (.tuple #[.slice (some ⟨w.heap.size, 0, none⟩) m m, .int .i64 0]) ∧ w'.heap[w.heap.size]? = some (.cells (blk .u8 l) 5 (0, 0)) ∧ Below w.heap.size w w'
/-- A call returns a pair: a list of its own, and no error. -/
def Makes2 (w : World) (xs : List Int) (e : Ending) (w' : World) : Prop := ∃ v, e = .returned (.tuple #[v, .int .i64 0]) ∧ Own .u8 5 w' w.heap.size v xs ∧ Below w.heap.size w w'

theorem Put_width (A : Option Addr) (m c : Nat) (v n : Int) (w : World) (h : ¬ (1 ≤ n ∧ n ≤ 8)) :
    Calls Try.prog 14 #[.slice A m c, .int .u64 v, .int .i64 n] w (Errs 3 w) := by
  have HW := Lib.hid h
  clear h
  go_enter Try.func14, Try.ntmps14
  go_wp2_with (go_at_call 38; refine (isWidth_no _ HW.out _).mono ?_; rintro e w' ⟨rfl, rfl⟩)
  go_ret2
  exact ⟨rfl, rfl⟩
theorem Put_great (A : Option Addr) (m c v n : Nat) (w : World) (h1 : 1 ≤ n) (h8 : n ≤ 8) (hv : v < 18446744073709551616) (h : ¬ v < 256 ^ n) :
    Calls Try.prog 14 #[.slice A m c, .int .u64 v, .int .i64 n] w (Errs 3 w) := by
  have HF := Lib.hid (decide_eq_false h)
  clear h
  go_enter Try.func14, Try.ntmps14
  go_wp2_with (first
    | (go_at_call 38; refine (isWidth_yes _ (by omega) (by omega) _).mono ?_; rintro e w' ⟨rfl, rfl⟩)
    | (go_at_call 39; refine (fits_any _ _ h1 h8 hv _).mono ?_; rintro e w' ⟨rfl, rfl⟩; rw [HF.out]))
  go_ret2
  exact ⟨rfl, rfl⟩

theorem info_size : (Try.prog.info? 5).map (·.size) = some 1 := by kernel_rfl
theorem setRow_alloc (w : World) (cur cs : Array Value) (t : TypeId) : (w.alloc (.cells cur t)).setRow w.heap.size cs = w.alloc (.cells cs t) := by
  have h : ((w.alloc (.cells cur t)).setRow w.heap.size cs).heap = (w.alloc (.cells cs t)).heap := by
    apply Array.ext_getElem?
    intro i
    by_cases hi : i = w.heap.size
    · subst hi
      rw [setRow_heap _ _ _ _ _ _ (heap_alloc_new w (.cells cur t)), heap_alloc_new]
    · rw [setRow_other _ _ _ _ hi]
      by_cases h2 : i < w.heap.size
      · rw [Below.heap_alloc w _ i h2, Below.heap_alloc w _ i h2]
      · rw [Array.getElem?_eq_none (by simp; omega), Array.getElem?_eq_none (by simp; omega)]
  exact congrArg (fun H => ({ w with heap := H } : World)) h
/-- 'copy' into a new block, as long a row as it holds. -/
theorem copy_new {P : Program} (k : IntKind) (w : World) (dT ty e : TypeId) (A : Option Addr) (m c q : Nat) (Z xs : List Int) (hu : P.underlying dT = some (.slice e)) (hs : (P.info? e).map (·.size) = some 1)
    (hr : Row k w w.heap.size A xs) (hm : xs.length = m) (hq : Z.length = q) (hz : m ≤ q) (t : TypeId) :
    (Builtin.copy_ #[dT, dT] ty #[.slice (some ⟨w.heap.size, 0, none⟩) q q, .slice A m c]).run P (w.alloc (.cells (blk k Z) t)) = .ok (.int .i64 m) (w.alloc (.cells (blk k (xs ++ Z.drop m)) t)) := by
  rcases Nat.eq_zero_or_pos m with h0 | h0
  · subst h0
    have : xs = [] := List.eq_nil_of_length_eq_zero hm
    subst this
    have := run_copy_none (P := P) (w.alloc (.cells (blk k Z) t)) dT dT ty e (some ⟨w.heap.size, 0, none⟩) A q q 0 c hu hs (Nat.zero_min _)
    simpa [goInt] using this
  · obtain ⟨b, o, rfl, _, hc⟩ := (hr.alloc (Nat.le_refl _) (.cells (blk k Z) t)).2 (by omega)
    have := run_copy_row (P := P) (w.alloc (.cells (blk k Z) t)) dT dT ty e w.heap.size 0 q q ⟨b, o, none⟩ m c (blk k Z) t (xs.map (Value.int k)) hu hs (heap_alloc_new w _)
      (by rw [List.length_map, hm]; exact (Nat.min_eq_left hz).symm) (fun j v hj => by
        rw [List.getElem?_map] at hj
        by_cases hlt : j < xs.length
        · rw [List.getElem?_eq_getElem hlt] at hj
          rw [Go.WideShapes.add_plain, hc j hlt, nth_eq xs j hlt]
          exact hj
        · rw [List.getElem?_eq_none (by omega)] at hj
          cases hj) (by rw [List.length_map, blk_size]; omega) (ints_oneCell _ _)
    rw [this, setRow_alloc]
    simp [goInt, hm, blk, List.map_drop]

theorem Own.laid {k : IntKind} {t : TypeId} {w : World} {base g : Nat} {l : List Int} {n : Nat} (hg : w.heap[g]? = some (.cells (blk k l) t (0, 0))) (hb : base ≤ g) (hl : l.length = n) (hm : n ≤ maxLen) : Own k t w base (.slice (some ⟨g, 0, none⟩) n n) l := by
  subst hl
  exact ⟨by simp, .inr ⟨g, _, _, rfl, hb, hg, Nat.le_refl _, hm, by simp [blk_size], by rw [Nat.mul_one, List.take_of_length_le (by simp [blk])]; simp [blk]⟩⟩
set_option maxHeartbeats 1000000 in
theorem Put_ok (A : Option Addr) (m c v n : Nat) (xs : List Int) (w : World) (hr : Row .u8 w w.heap.size A xs) (hm : xs.length = m) (hb : m ≤ 140737488351232) (h1 : 1 ≤ n) (h8 : n ≤ 8) (hv : v < 18446744073709551616) (h : v < 256 ^ n) :
    Calls Try.prog 14 #[.slice A m c, .int .u64 v, .int .i64 n] w (Opens w (xs ++ be n v) (m + n)) := by
  have HF := Lib.hid (decide_eq_true h)
  have hmk := make_u8 (m + n) (by omega)
  rw [show ((m + n : Nat) : Int) = (m : Int) + n by omega] at hmk
  have hcp := copy_new (P := Try.prog) .u8 w 22 3 5 A m c (m + n) (List.replicate (m + n) 0) xs Try.underlying22 info_size hr hm (by simp) (by omega) 5
  have hd : List.drop m (List.replicate (m + n) (0 : Int)) = List.replicate n 0 ++ [] := by simp
  rw [hd] at hcp
  have hm' := Lib.hid hm
  clear h hm hd
  have hg0 := Lib.hid (heap_alloc_new w (.cells (blk .u8 (xs ++ (List.replicate n 0 ++ []))) 5))
  have bel0 : Below w.heap.size w (w.alloc (.cells (blk .u8 (xs ++ (List.replicate n 0 ++ []))) 5)) := (Below.refl _ _).alloc (Nat.le_refl _) _
  have hs0 : w.heap.size < (w.alloc (.cells (blk .u8 (xs ++ (List.replicate n 0 ++ []))) 5)).heap.size := by simp
  obtain ⟨Y, hY⟩ : ∃ Y : List Int, Hid (Y = xs ++ (List.replicate n 0 ++ [])) := ⟨_, Lib.hid rfl⟩
  rw [← hY.out] at hcp hg0 bel0 hs0
  go_enter Try.func14, Try.ntmps14
  go_wp2_with (first
    | (go_at_call 38; refine (isWidth_yes _ (by omega) (by omega) _).mono ?_; rintro e w' ⟨rfl, rfl⟩)
    | (go_at_call 39; refine (fits_any _ _ h1 h8 hv _).mono ?_; rintro e w' ⟨rfl, rfl⟩; rw [HF.out])
    | (go_at_call 40; refine (lay_any w.heap.size m n n v n xs (List.replicate n 0) [] _ (by rw [← hY.out]; exact hg0.out) hm'.out (by simp) (Nat.le_refl _) (by omega) h8 hv).mono ?_; rintro e w' ⟨rfl, hg1, hgr, hsz⟩))
  go_ret2
  exact ⟨rfl, by rw [List.append_nil] at hg1; exact hg1, bel0.grown hgr (Nat.le_of_lt hs0) (fun k e => by injection e; omega)⟩
end Go.Proofs.Ytaeecoiodkbomaa
