/-
  The statement ReplyKnown of outstationlaw04 holds: for every input that can be read, the call returns true, and each argument reads as it did. No condition of its own.
-/
import Derived.Test.YtobhllcnljggiaaGreatJReplyKnownF
import Derived.Test.YtobhllcnljggiaaGreatJReplyKnownG
import Derived.Test.YtobhllcnljggiaaGreatJReplyKnownI
import Derived.Test.YtobhllcnljggiaaGreatJReplyKnownJ
import Derived.Test.YtobhllcnljggiaaGreatRows
import Derived.Test.YtobhllcnljggiaaGreatJReplyKnownA
namespace Go.Proofs.YtobhllcnljggiaaGreat
open Go.RowKit
set_option linter.unusedVariables false

/-- Objects made one behind the other. -/
def allocs (w : World) : List Obj → World
  | [] => w
  | o :: os => allocs (w.alloc o) os
theorem allocs_size (w : World) (os : List Obj) : (allocs w os).heap.size = w.heap.size + os.length := by
  induction os generalizing w with
  | nil => rfl
  | cons o os ih => rw [allocs, ih]; simp; omega
theorem allocs_bel (w : World) (os : List Obj) : Below w.heap.size w (allocs w os) := by
  induction os generalizing w with
  | nil => exact Below.refl _ _
  | cons o os ih => rw [allocs]; exact (bel_alloc w o).trans ((ih _).mono (by simp))
theorem allocs_get (w : World) (os : List Obj) (i : Nat) (h : i < os.length) : (allocs w os).heap[w.heap.size + i]? = some os[i] := by
  induction os generalizing w i with
  | nil => simp at h
  | cons o os ih =>
    rw [allocs]
    cases i with
    | zero =>
      rw [(allocs_bel (w.alloc o) os).block _ (by simp)]
      exact heap_alloc_new w o
    | succ i =>
      have := ih (w.alloc o) i (by simpa using h)
      rw [show (w.alloc o).heap.size + i = w.heap.size + (i + 1) by simp; omega] at this
      exact this
def askL : List Req := [⟨1, 5, 10, [], [], []⟩, ⟨2, 0, 8, [], [], []⟩, ⟨3, 0, 2, [], [], []⟩, ⟨4, 0, 1, [], [], []⟩, ⟨5, 3, 0, [true], [], []⟩, ⟨6, 7, 0, [], [9], []⟩, ⟨15, 0, 0, [true, false, true], [], []⟩, ⟨16, 7, 0, [], [9, 9], []⟩, ⟨20, 0, 0, [], [], [1, 0, 1]⟩, ⟨20, 0, 0, [], [], [1, 0, 1, 2, 3, 2]⟩, ⟨7, 0, 0, [], [], []⟩, ⟨3, 0, 0, [], [], []⟩]
def askR (k : Nat) : Req := askL.getD k Req.zero
def formL : List (List Int) := [[], [3], [131], [131, 0], [131, 2], [131, 128], [131, 2, 0], [4], [3, 4, 0, 1, 2], [3, 3, 0, 1, 2, 0], [3, 4, 0, 1, 2, 0], [3, 4, 0, 1, 2, 0, 0], [1, 2, 1, 0], [1, 2, 1, 4], [1, 1, 1, 0], [6, 0, 7, 0, 9], [6, 0, 7, 0, 8], [16, 0, 7, 0, 2], [16, 0, 7, 0, 1], [20, 4, 3, 6, 0, 5], [20, 4, 3, 7, 0, 5], [20, 4, 3, 5, 0, 5], [20, 4, 4, 6, 0, 5], [20, 5, 3, 6, 0, 5], [20, 10, 3, 6, 0, 5, 5, 6, 0, 6, 0, 7], [5, 0, 3, 255, 0], [5, 0, 3, 0, 0], [15, 0, 0, 0, 3], [255, 1]]
def formR_ (k : Nat) : List Int := formL.getD k []
def askO (w : World) : List Obj := [(.cells #[.bool true] 4), (.cells #[.int .u16 9] 32), (.cells #[.bool true, .bool false, .bool true] 4), (.cells #[.int .u16 9, .int .u16 9] 32), (.cells #[.int .i64 1, .int .i64 0, .int .i64 1] 47), (.cells #[.int .i64 1, .int .i64 0, .int .i64 1, .int .i64 2, .int .i64 3, .int .i64 2] 47), (.cells #[.int .i64 1, .int .i64 5, .int .i64 10, .slice none 0 0, .slice none 0 0, .slice none 0 0, .int .i64 2, .int .i64 0, .int .i64 8, .slice none 0 0, .slice none 0 0, .slice none 0 0, .int .i64 3, .int .i64 0, .int .i64 2, .slice none 0 0, .slice none 0 0, .slice none 0 0, .int .i64 4, .int .i64 0, .int .i64 1, .slice none 0 0, .slice none 0 0, .slice none 0 0, .int .i64 5, .int .i64 3, .int .i64 0, .slice (some ⟨w.heap.size + 0, 0, none⟩) 1 1, .slice none 0 0, .slice none 0 0, .int .i64 6, .int .i64 7, .int .i64 0, .slice none 0 0, .slice (some ⟨w.heap.size + 1, 0, none⟩) 1 1, .slice none 0 0, .int .i64 15, .int .i64 0, .int .i64 0, .slice (some ⟨w.heap.size + 2, 0, none⟩) 3 3, .slice none 0 0, .slice none 0 0, .int .i64 16, .int .i64 7, .int .i64 0, .slice none 0 0, .slice (some ⟨w.heap.size + 3, 0, none⟩) 2 2, .slice none 0 0, .int .i64 20, .int .i64 0, .int .i64 0, .slice none 0 0, .slice none 0 0, .slice (some ⟨w.heap.size + 4, 0, none⟩) 1 1, .int .i64 20, .int .i64 0, .int .i64 0, .slice none 0 0, .slice none 0 0, .slice (some ⟨w.heap.size + 5, 0, none⟩) 2 2, .int .i64 7, .int .i64 0, .int .i64 0, .slice none 0 0, .slice none 0 0, .slice none 0 0, .int .i64 3, .int .i64 0, .int .i64 0, .slice none 0 0, .slice none 0 0, .slice none 0 0] 26)]
def formO (w : World) : List Obj := [(.cells #[.int .u8 3] 5), (.cells #[.int .u8 131] 5), (.cells #[.int .u8 131, .int .u8 0] 5), (.cells #[.int .u8 131, .int .u8 2] 5), (.cells #[.int .u8 131, .int .u8 128] 5), (.cells #[.int .u8 131, .int .u8 2, .int .u8 0] 5), (.cells #[.int .u8 4] 5), (.cells #[.int .u8 3, .int .u8 4, .int .u8 0, .int .u8 1, .int .u8 2] 5), (.cells #[.int .u8 3, .int .u8 3, .int .u8 0, .int .u8 1, .int .u8 2, .int .u8 0] 5), (.cells #[.int .u8 3, .int .u8 4, .int .u8 0, .int .u8 1, .int .u8 2, .int .u8 0] 5), (.cells #[.int .u8 3, .int .u8 4, .int .u8 0, .int .u8 1, .int .u8 2, .int .u8 0, .int .u8 0] 5), (.cells #[.int .u8 1, .int .u8 2, .int .u8 1, .int .u8 0] 5), (.cells #[.int .u8 1, .int .u8 2, .int .u8 1, .int .u8 4] 5), (.cells #[.int .u8 1, .int .u8 1, .int .u8 1, .int .u8 0] 5), (.cells #[.int .u8 6, .int .u8 0, .int .u8 7, .int .u8 0, .int .u8 9] 5), (.cells #[.int .u8 6, .int .u8 0, .int .u8 7, .int .u8 0, .int .u8 8] 5), (.cells #[.int .u8 16, .int .u8 0, .int .u8 7, .int .u8 0, .int .u8 2] 5), (.cells #[.int .u8 16, .int .u8 0, .int .u8 7, .int .u8 0, .int .u8 1] 5), (.cells #[.int .u8 20, .int .u8 4, .int .u8 3, .int .u8 6, .int .u8 0, .int .u8 5] 5), (.cells #[.int .u8 20, .int .u8 4, .int .u8 3, .int .u8 7, .int .u8 0, .int .u8 5] 5), (.cells #[.int .u8 20, .int .u8 4, .int .u8 3, .int .u8 5, .int .u8 0, .int .u8 5] 5), (.cells #[.int .u8 20, .int .u8 4, .int .u8 4, .int .u8 6, .int .u8 0, .int .u8 5] 5), (.cells #[.int .u8 20, .int .u8 5, .int .u8 3, .int .u8 6, .int .u8 0, .int .u8 5] 5), (.cells #[.int .u8 20, .int .u8 10, .int .u8 3, .int .u8 6, .int .u8 0, .int .u8 5, .int .u8 5, .int .u8 6, .int .u8 0, .int .u8 6, .int .u8 0, .int .u8 7] 5), (.cells #[.int .u8 5, .int .u8 0, .int .u8 3, .int .u8 255, .int .u8 0] 5), (.cells #[.int .u8 5, .int .u8 0, .int .u8 3, .int .u8 0, .int .u8 0] 5), (.cells #[.int .u8 15, .int .u8 0, .int .u8 0, .int .u8 0, .int .u8 3] 5), (.cells #[.int .u8 255, .int .u8 1] 5), (.cells #[.slice none 0 0, .slice (some ⟨w.heap.size + 0, 0, none⟩) 1 1, .slice (some ⟨w.heap.size + 1, 0, none⟩) 1 1, .slice (some ⟨w.heap.size + 2, 0, none⟩) 2 2, .slice (some ⟨w.heap.size + 3, 0, none⟩) 2 2, .slice (some ⟨w.heap.size + 4, 0, none⟩) 2 2, .slice (some ⟨w.heap.size + 5, 0, none⟩) 3 3, .slice (some ⟨w.heap.size + 6, 0, none⟩) 1 1, .slice (some ⟨w.heap.size + 7, 0, none⟩) 5 5, .slice (some ⟨w.heap.size + 8, 0, none⟩) 6 6, .slice (some ⟨w.heap.size + 9, 0, none⟩) 6 6, .slice (some ⟨w.heap.size + 10, 0, none⟩) 7 7, .slice (some ⟨w.heap.size + 11, 0, none⟩) 4 4, .slice (some ⟨w.heap.size + 12, 0, none⟩) 4 4, .slice (some ⟨w.heap.size + 13, 0, none⟩) 4 4, .slice (some ⟨w.heap.size + 14, 0, none⟩) 5 5, .slice (some ⟨w.heap.size + 15, 0, none⟩) 5 5, .slice (some ⟨w.heap.size + 16, 0, none⟩) 5 5, .slice (some ⟨w.heap.size + 17, 0, none⟩) 5 5, .slice (some ⟨w.heap.size + 18, 0, none⟩) 6 6, .slice (some ⟨w.heap.size + 19, 0, none⟩) 6 6, .slice (some ⟨w.heap.size + 20, 0, none⟩) 6 6, .slice (some ⟨w.heap.size + 21, 0, none⟩) 6 6, .slice (some ⟨w.heap.size + 22, 0, none⟩) 6 6, .slice (some ⟨w.heap.size + 23, 0, none⟩) 12 12, .slice (some ⟨w.heap.size + 24, 0, none⟩) 5 5, .slice (some ⟨w.heap.size + 25, 0, none⟩) 5 5, .slice (some ⟨w.heap.size + 26, 0, none⟩) 5 5, .slice (some ⟨w.heap.size + 27, 0, none⟩) 2 2] 34)]
def AsksAt (w : World) (g : Nat) : Prop := ∃ cells : Array Value, w.heap[g]? = some (.cells cells 26 (0, 0)) ∧ ∀ k, k < 12 → ∃ (Ao As Ap : Option Addr) (lo ls lp co cs cp : Nat), cells[k * 6]? = some (.int .i64 (askR k).c) ∧ cells[k * 6 + 1]? = some (.int .i64 (askR k).a) ∧ cells[k * 6 + 2]? = some (.int .i64 (askR k).n) ∧ cells[k * 6 + 3]? = some (.slice Ao lo co) ∧ cells[k * 6 + 4]? = some (.slice As ls cs) ∧ cells[k * 6 + 5]? = some (.slice Ap lp cp) ∧ Asked w w.heap.size (askR k) Ao As Ap lo ls lp
def FormsAt (w : World) (g : Nat) : Prop := ∃ cells : Array Value, w.heap[g]? = some (.cells cells 34 (0, 0)) ∧ ∀ k, k < 29 → ∃ (A : Option Addr) (n : Nat), cells[k]? = some (.slice A n n) ∧ Row .u8 w w.heap.size A (formR_ k) ∧ (formR_ k).length = n
theorem AsksAt.below {w w' : World} {g : Nat} (h : AsksAt w g) (hb : Below w.heap.size w w') : AsksAt w' g := by
  obtain ⟨cells, h1, h2⟩ := h
  refine ⟨cells, (hb.block g (block_lt h1)).trans h1, fun k hk => ?_⟩
  obtain ⟨Ao, As, Ap, lo, ls, lp, co, cs, cp, a, b, c, d, e, f, k'⟩ := h2 k hk
  exact ⟨Ao, As, Ap, lo, ls, lp, co, cs, cp, a, b, c, d, e, f, k'.up hb⟩
theorem FormsAt.below {w w' : World} {g : Nat} (h : FormsAt w g) (hb : Below w.heap.size w w') : FormsAt w' g := by
  obtain ⟨cells, h1, h2⟩ := h
  refine ⟨cells, (hb.block g (block_lt h1)).trans h1, fun k hk => ?_⟩
  obtain ⟨A, n, a, b, c⟩ := h2 k hk
  exact ⟨A, n, a, (b.below hb).more hb.size, c⟩
set_option maxRecDepth 100000 in
theorem asks_at (w : World) : AsksAt (allocs w (askO w)) (w.heap.size + 6) := by
  refine ⟨_, allocs_get w (askO w) 6 (by simp [askO]), fun k hk => ?_⟩
  match k, hk with
  | 0, _ => exact ⟨none, none, none, 0, 0, 0, 0, 0, 0, rfl, rfl, rfl, rfl, rfl, rfl, ⟨L.Row.nil _ _ _ _, Row.nil _ _ _ _, Row.nil _ _ _ _, rfl, rfl, rfl⟩⟩
  | 1, _ => exact ⟨none, none, none, 0, 0, 0, 0, 0, 0, rfl, rfl, rfl, rfl, rfl, rfl, ⟨L.Row.nil _ _ _ _, Row.nil _ _ _ _, Row.nil _ _ _ _, rfl, rfl, rfl⟩⟩
  | 2, _ => exact ⟨none, none, none, 0, 0, 0, 0, 0, 0, rfl, rfl, rfl, rfl, rfl, rfl, ⟨L.Row.nil _ _ _ _, Row.nil _ _ _ _, Row.nil _ _ _ _, rfl, rfl, rfl⟩⟩
  | 3, _ => exact ⟨none, none, none, 0, 0, 0, 0, 0, 0, rfl, rfl, rfl, rfl, rfl, rfl, ⟨L.Row.nil _ _ _ _, Row.nil _ _ _ _, Row.nil _ _ _ _, rfl, rfl, rfl⟩⟩
  | 4, _ => exact ⟨some ⟨w.heap.size + 0, 0, none⟩, none, none, 1, 0, 0, 1, 0, 0, rfl, rfl, rfl, rfl, rfl, rfl, ⟨L.Bk.row (show L.Bk _ _ [true] from allocs_get w (askO w) 0 (by simp [askO])) _ (fun _ _ => rfl) (List.prefix_refl _), Row.nil _ _ _ _, Row.nil _ _ _ _, rfl, rfl, rfl⟩⟩
  | 5, _ => exact ⟨none, some ⟨w.heap.size + 1, 0, none⟩, none, 0, 1, 0, 0, 1, 0, rfl, rfl, rfl, rfl, rfl, rfl, ⟨L.Row.nil _ _ _ _, W.Bk.row (show W.Bk _ _ [9] from allocs_get w (askO w) 1 (by simp [askO])) _ (by decide) (List.prefix_refl _), Row.nil _ _ _ _, rfl, rfl, rfl⟩⟩
  | 6, _ => exact ⟨some ⟨w.heap.size + 2, 0, none⟩, none, none, 3, 0, 0, 3, 0, 0, rfl, rfl, rfl, rfl, rfl, rfl, ⟨L.Bk.row (show L.Bk _ _ [true, false, true] from allocs_get w (askO w) 2 (by simp [askO])) _ (fun _ _ => rfl) (List.prefix_refl _), Row.nil _ _ _ _, Row.nil _ _ _ _, rfl, rfl, rfl⟩⟩
  | 7, _ => exact ⟨none, some ⟨w.heap.size + 3, 0, none⟩, none, 0, 2, 0, 0, 2, 0, rfl, rfl, rfl, rfl, rfl, rfl, ⟨L.Row.nil _ _ _ _, W.Bk.row (show W.Bk _ _ [9, 9] from allocs_get w (askO w) 3 (by simp [askO])) _ (by decide) (List.prefix_refl _), Row.nil _ _ _ _, rfl, rfl, rfl⟩⟩
  | 8, _ => exact ⟨none, none, some ⟨w.heap.size + 4, 0, none⟩, 0, 0, 1, 0, 0, 1, rfl, rfl, rfl, rfl, rfl, rfl, ⟨L.Row.nil _ _ _ _, Row.nil _ _ _ _, (Row.of_block (l := [1, 0, 1]) (allocs_get w (askO w) 4 (by simp [askO])) _ (by decide) (List.prefix_refl _)).more (by rw [allocs_size]; simp [askO]), rfl, rfl, rfl⟩⟩
  | 9, _ => exact ⟨none, none, some ⟨w.heap.size + 5, 0, none⟩, 0, 0, 2, 0, 0, 2, rfl, rfl, rfl, rfl, rfl, rfl, ⟨L.Row.nil _ _ _ _, Row.nil _ _ _ _, (Row.of_block (l := [1, 0, 1, 2, 3, 2]) (allocs_get w (askO w) 5 (by simp [askO])) _ (by decide) (List.prefix_refl _)).more (by rw [allocs_size]; simp [askO]), rfl, rfl, rfl⟩⟩
  | 10, _ => exact ⟨none, none, none, 0, 0, 0, 0, 0, 0, rfl, rfl, rfl, rfl, rfl, rfl, ⟨L.Row.nil _ _ _ _, Row.nil _ _ _ _, Row.nil _ _ _ _, rfl, rfl, rfl⟩⟩
  | 11, _ => exact ⟨none, none, none, 0, 0, 0, 0, 0, 0, rfl, rfl, rfl, rfl, rfl, rfl, ⟨L.Row.nil _ _ _ _, Row.nil _ _ _ _, Row.nil _ _ _ _, rfl, rfl, rfl⟩⟩
  | k + 12, hk3 => omega
set_option maxRecDepth 100000 in
theorem forms_at (w : World) : FormsAt (allocs w (formO w)) (w.heap.size + 28) := by
  refine ⟨_, allocs_get w (formO w) 28 (by simp [formO]), fun k hk => ?_⟩
  match k, hk with
  | 0, _ => exact ⟨none, 0, rfl, Row.nil _ _ _ _, rfl⟩
  | 1, _ => exact ⟨some ⟨w.heap.size + 0, 0, none⟩, 1, rfl, (Row.of_block (l := [3]) (allocs_get w (formO w) 0 (by simp [formO])) _ (by decide) (List.prefix_refl _)).more (by rw [allocs_size]; simp [formO]), rfl⟩
  | 2, _ => exact ⟨some ⟨w.heap.size + 1, 0, none⟩, 1, rfl, (Row.of_block (l := [131]) (allocs_get w (formO w) 1 (by simp [formO])) _ (by decide) (List.prefix_refl _)).more (by rw [allocs_size]; simp [formO]), rfl⟩
  | 3, _ => exact ⟨some ⟨w.heap.size + 2, 0, none⟩, 2, rfl, (Row.of_block (l := [131, 0]) (allocs_get w (formO w) 2 (by simp [formO])) _ (by decide) (List.prefix_refl _)).more (by rw [allocs_size]; simp [formO]), rfl⟩
  | 4, _ => exact ⟨some ⟨w.heap.size + 3, 0, none⟩, 2, rfl, (Row.of_block (l := [131, 2]) (allocs_get w (formO w) 3 (by simp [formO])) _ (by decide) (List.prefix_refl _)).more (by rw [allocs_size]; simp [formO]), rfl⟩
  | 5, _ => exact ⟨some ⟨w.heap.size + 4, 0, none⟩, 2, rfl, (Row.of_block (l := [131, 128]) (allocs_get w (formO w) 4 (by simp [formO])) _ (by decide) (List.prefix_refl _)).more (by rw [allocs_size]; simp [formO]), rfl⟩
  | 6, _ => exact ⟨some ⟨w.heap.size + 5, 0, none⟩, 3, rfl, (Row.of_block (l := [131, 2, 0]) (allocs_get w (formO w) 5 (by simp [formO])) _ (by decide) (List.prefix_refl _)).more (by rw [allocs_size]; simp [formO]), rfl⟩
  | 7, _ => exact ⟨some ⟨w.heap.size + 6, 0, none⟩, 1, rfl, (Row.of_block (l := [4]) (allocs_get w (formO w) 6 (by simp [formO])) _ (by decide) (List.prefix_refl _)).more (by rw [allocs_size]; simp [formO]), rfl⟩
  | 8, _ => exact ⟨some ⟨w.heap.size + 7, 0, none⟩, 5, rfl, (Row.of_block (l := [3, 4, 0, 1, 2]) (allocs_get w (formO w) 7 (by simp [formO])) _ (by decide) (List.prefix_refl _)).more (by rw [allocs_size]; simp [formO]), rfl⟩
  | 9, _ => exact ⟨some ⟨w.heap.size + 8, 0, none⟩, 6, rfl, (Row.of_block (l := [3, 3, 0, 1, 2, 0]) (allocs_get w (formO w) 8 (by simp [formO])) _ (by decide) (List.prefix_refl _)).more (by rw [allocs_size]; simp [formO]), rfl⟩
  | 10, _ => exact ⟨some ⟨w.heap.size + 9, 0, none⟩, 6, rfl, (Row.of_block (l := [3, 4, 0, 1, 2, 0]) (allocs_get w (formO w) 9 (by simp [formO])) _ (by decide) (List.prefix_refl _)).more (by rw [allocs_size]; simp [formO]), rfl⟩
  | 11, _ => exact ⟨some ⟨w.heap.size + 10, 0, none⟩, 7, rfl, (Row.of_block (l := [3, 4, 0, 1, 2, 0, 0]) (allocs_get w (formO w) 10 (by simp [formO])) _ (by decide) (List.prefix_refl _)).more (by rw [allocs_size]; simp [formO]), rfl⟩
  | 12, _ => exact ⟨some ⟨w.heap.size + 11, 0, none⟩, 4, rfl, (Row.of_block (l := [1, 2, 1, 0]) (allocs_get w (formO w) 11 (by simp [formO])) _ (by decide) (List.prefix_refl _)).more (by rw [allocs_size]; simp [formO]), rfl⟩
  | 13, _ => exact ⟨some ⟨w.heap.size + 12, 0, none⟩, 4, rfl, (Row.of_block (l := [1, 2, 1, 4]) (allocs_get w (formO w) 12 (by simp [formO])) _ (by decide) (List.prefix_refl _)).more (by rw [allocs_size]; simp [formO]), rfl⟩
  | 14, _ => exact ⟨some ⟨w.heap.size + 13, 0, none⟩, 4, rfl, (Row.of_block (l := [1, 1, 1, 0]) (allocs_get w (formO w) 13 (by simp [formO])) _ (by decide) (List.prefix_refl _)).more (by rw [allocs_size]; simp [formO]), rfl⟩
  | 15, _ => exact ⟨some ⟨w.heap.size + 14, 0, none⟩, 5, rfl, (Row.of_block (l := [6, 0, 7, 0, 9]) (allocs_get w (formO w) 14 (by simp [formO])) _ (by decide) (List.prefix_refl _)).more (by rw [allocs_size]; simp [formO]), rfl⟩
  | 16, _ => exact ⟨some ⟨w.heap.size + 15, 0, none⟩, 5, rfl, (Row.of_block (l := [6, 0, 7, 0, 8]) (allocs_get w (formO w) 15 (by simp [formO])) _ (by decide) (List.prefix_refl _)).more (by rw [allocs_size]; simp [formO]), rfl⟩
  | 17, _ => exact ⟨some ⟨w.heap.size + 16, 0, none⟩, 5, rfl, (Row.of_block (l := [16, 0, 7, 0, 2]) (allocs_get w (formO w) 16 (by simp [formO])) _ (by decide) (List.prefix_refl _)).more (by rw [allocs_size]; simp [formO]), rfl⟩
  | 18, _ => exact ⟨some ⟨w.heap.size + 17, 0, none⟩, 5, rfl, (Row.of_block (l := [16, 0, 7, 0, 1]) (allocs_get w (formO w) 17 (by simp [formO])) _ (by decide) (List.prefix_refl _)).more (by rw [allocs_size]; simp [formO]), rfl⟩
  | 19, _ => exact ⟨some ⟨w.heap.size + 18, 0, none⟩, 6, rfl, (Row.of_block (l := [20, 4, 3, 6, 0, 5]) (allocs_get w (formO w) 18 (by simp [formO])) _ (by decide) (List.prefix_refl _)).more (by rw [allocs_size]; simp [formO]), rfl⟩
  | 20, _ => exact ⟨some ⟨w.heap.size + 19, 0, none⟩, 6, rfl, (Row.of_block (l := [20, 4, 3, 7, 0, 5]) (allocs_get w (formO w) 19 (by simp [formO])) _ (by decide) (List.prefix_refl _)).more (by rw [allocs_size]; simp [formO]), rfl⟩
  | 21, _ => exact ⟨some ⟨w.heap.size + 20, 0, none⟩, 6, rfl, (Row.of_block (l := [20, 4, 3, 5, 0, 5]) (allocs_get w (formO w) 20 (by simp [formO])) _ (by decide) (List.prefix_refl _)).more (by rw [allocs_size]; simp [formO]), rfl⟩
  | 22, _ => exact ⟨some ⟨w.heap.size + 21, 0, none⟩, 6, rfl, (Row.of_block (l := [20, 4, 4, 6, 0, 5]) (allocs_get w (formO w) 21 (by simp [formO])) _ (by decide) (List.prefix_refl _)).more (by rw [allocs_size]; simp [formO]), rfl⟩
  | 23, _ => exact ⟨some ⟨w.heap.size + 22, 0, none⟩, 6, rfl, (Row.of_block (l := [20, 5, 3, 6, 0, 5]) (allocs_get w (formO w) 22 (by simp [formO])) _ (by decide) (List.prefix_refl _)).more (by rw [allocs_size]; simp [formO]), rfl⟩
  | 24, _ => exact ⟨some ⟨w.heap.size + 23, 0, none⟩, 12, rfl, (Row.of_block (l := [20, 10, 3, 6, 0, 5, 5, 6, 0, 6, 0, 7]) (allocs_get w (formO w) 23 (by simp [formO])) _ (by decide) (List.prefix_refl _)).more (by rw [allocs_size]; simp [formO]), rfl⟩
  | 25, _ => exact ⟨some ⟨w.heap.size + 24, 0, none⟩, 5, rfl, (Row.of_block (l := [5, 0, 3, 255, 0]) (allocs_get w (formO w) 24 (by simp [formO])) _ (by decide) (List.prefix_refl _)).more (by rw [allocs_size]; simp [formO]), rfl⟩
  | 26, _ => exact ⟨some ⟨w.heap.size + 25, 0, none⟩, 5, rfl, (Row.of_block (l := [5, 0, 3, 0, 0]) (allocs_get w (formO w) 25 (by simp [formO])) _ (by decide) (List.prefix_refl _)).more (by rw [allocs_size]; simp [formO]), rfl⟩
  | 27, _ => exact ⟨some ⟨w.heap.size + 26, 0, none⟩, 5, rfl, (Row.of_block (l := [15, 0, 0, 0, 3]) (allocs_get w (formO w) 26 (by simp [formO])) _ (by decide) (List.prefix_refl _)).more (by rw [allocs_size]; simp [formO]), rfl⟩
  | 28, _ => exact ⟨some ⟨w.heap.size + 27, 0, none⟩, 2, rfl, (Row.of_block (l := [255, 1]) (allocs_get w (formO w) 27 (by simp [formO])) _ (by decide) (List.prefix_refl _)).more (by rw [allocs_size]; simp [formO]), rfl⟩
  | k + 29, hk3 => omega

set_option maxHeartbeats 2000000 in
set_option maxRecDepth 100000 in
theorem asks_any (w : World) : Calls Tryz.prog 5 #[] w fun e w' => ∃ g, e = .returned (.slice (some ⟨g, 0, none⟩) 12 12) ∧ AsksAt w' g ∧ Below w.heap.size w w' := by
  have h1 := asks_at w
  have h2 := allocs_bel w (askO w)
  go_enter Tryz.func5, Tryz.ntmps5
  go_wp2
  go_ret
  exact ⟨_, rfl, h1, h2⟩

/-- The boxes, the answers, the bytes and the requests. -/
structure KnSt (w0 : World) (gA gR gS gM gF gL : Nat) (w : World) : Prop where
  bs : Bs0 w0 gA gR gS w
  m : AllAt w gM
  f : FormsAt w gF
  l : AsksAt w gL
theorem KnSt.below {w0 w w' : World} {gA gR gS gM gF gL : Nat} (h : KnSt w0 gA gR gS gM gF gL w) (hb : Below w.heap.size w w') : KnSt w0 gA gR gS gM gF gL w' := ⟨h.bs.below hb, h.m.below hb, h.f.below hb, h.l.below hb⟩
/-- A request at its place. -/
structure AskAt (w : World) (gL i : Nat) (q : Req) (Ao As Ap : Option Addr) (lo ls lp co cs cp : Nat) : Prop where
  lt : gL < w.heap.size
  c : w.cell? ⟨gL, i * 6, none⟩ = some (.int .i64 q.c) ∧ w.cell? ⟨gL, i * 6 + 1, none⟩ = some (.int .i64 q.a) ∧ w.cell? ⟨gL, i * 6 + 2, none⟩ = some (.int .i64 q.n) ∧ w.cell? ⟨gL, i * 6 + 3, none⟩ = some (.slice Ao lo co) ∧ w.cell? ⟨gL, i * 6 + 4, none⟩ = some (.slice As ls cs) ∧ w.cell? ⟨gL, i * 6 + 5, none⟩ = some (.slice Ap lp cp)
  ask : Asked w w.heap.size q Ao As Ap lo ls lp
structure RepAt (w : World) (gM k : Nat) (r : Rep) (Bo Bs Bf : Option Addr) (mo ms mf eo es ef : Nat) : Prop where
  lt : gM < w.heap.size
  c : w.cell? ⟨gM, k * 4, none⟩ = some (.int .i64 r.x) ∧ w.cell? ⟨gM, k * 4 + 1, none⟩ = some (.slice Bo mo eo) ∧ w.cell? ⟨gM, k * 4 + 2, none⟩ = some (.slice Bs ms es) ∧ w.cell? ⟨gM, k * 4 + 3, none⟩ = some (.slice Bf mf ef)
  rep : Repd w w.heap.size r Bo Bs Bf mo ms mf
structure FormAt (w : World) (gF k : Nat) (l : List Int) (A : Option Addr) (n : Nat) : Prop where
  lt : gF < w.heap.size
  c : w.cell? ⟨gF, k, none⟩ = some (.slice A n n)
  row : Row .u8 w w.heap.size A l
  len : l.length = n
theorem AskAt.below {w w' : World} {gL i : Nat} {q : Req} {Ao As Ap : Option Addr} {lo ls lp co cs cp : Nat} (h : AskAt w gL i q Ao As Ap lo ls lp co cs cp) (hb : Below w.heap.size w w') : AskAt w' gL i q Ao As Ap lo ls lp co cs cp := by
  obtain ⟨lt, ⟨c0, c1, c2, c3, c4, c5⟩, a⟩ := h
  exact ⟨Nat.lt_of_lt_of_le lt hb.size, ⟨(hb.cell (p := ⟨gL, _, none⟩) lt).trans c0, (hb.cell (p := ⟨gL, _, none⟩) lt).trans c1, (hb.cell (p := ⟨gL, _, none⟩) lt).trans c2, (hb.cell (p := ⟨gL, _, none⟩) lt).trans c3, (hb.cell (p := ⟨gL, _, none⟩) lt).trans c4, (hb.cell (p := ⟨gL, _, none⟩) lt).trans c5⟩, a.up hb⟩
theorem RepAt.below {w w' : World} {gM k : Nat} {r : Rep} {Bo Bs Bf : Option Addr} {mo ms mf eo es ef : Nat} (h : RepAt w gM k r Bo Bs Bf mo ms mf eo es ef) (hb : Below w.heap.size w w') : RepAt w' gM k r Bo Bs Bf mo ms mf eo es ef := by
  obtain ⟨lt, ⟨c0, c1, c2, c3⟩, a⟩ := h
  exact ⟨Nat.lt_of_lt_of_le lt hb.size, ⟨(hb.cell (p := ⟨gM, _, none⟩) lt).trans c0, (hb.cell (p := ⟨gM, _, none⟩) lt).trans c1, (hb.cell (p := ⟨gM, _, none⟩) lt).trans c2, (hb.cell (p := ⟨gM, _, none⟩) lt).trans c3⟩, a.up hb⟩
theorem FormAt.below {w w' : World} {gF k n : Nat} {l : List Int} {A : Option Addr} (h : FormAt w gF k l A n) (hb : Below w.heap.size w w') : FormAt w' gF k l A n :=
  ⟨Nat.lt_of_lt_of_le h.lt hb.size, (hb.cell (p := ⟨gF, k, none⟩) h.lt).trans h.c, (h.row.below hb).more hb.size, h.len⟩
theorem KnSt.ask {w0 w : World} {gA gR gS gM gF gL : Nat} (h : KnSt w0 gA gR gS gM gF gL w) (i : Nat) (hi : i < 12) : ∃ Ao As Ap lo ls lp co cs cp, AskAt w gL i (askR i) Ao As Ap lo ls lp co cs cp := by
  obtain ⟨cells, h1, h2⟩ := h.l
  obtain ⟨Ao, As, Ap, lo, ls, lp, co, cs, cp, a, b, c, d, e, f, k⟩ := h2 i hi
  refine ⟨Ao, As, Ap, lo, ls, lp, co, cs, cp, block_lt h1, ⟨?_, ?_, ?_, ?_, ?_, ?_⟩, k⟩
  all_goals (rw [cell_of_row w gL _ _ _ _ h1]; assumption)
theorem KnSt.rep {w0 w : World} {gA gR gS gM gF gL : Nat} (h : KnSt w0 gA gR gS gM gF gL w) (i : Nat) (hi : i < 16) : ∃ Bo Bs Bf mo ms mf eo es ef, RepAt w gM i (moreR i) Bo Bs Bf mo ms mf eo es ef := by
  obtain ⟨cells, h1, h2⟩ := h.m
  obtain ⟨Bo, Bs, Bf, mo, ms, mf, eo, es, ef, a, b, c, d, k⟩ := h2 i hi
  rw [Nat.mul_comm 4 i] at a b c d
  refine ⟨Bo, Bs, Bf, mo, ms, mf, eo, es, ef, block_lt h1, ⟨?_, ?_, ?_, ?_⟩, k⟩
  all_goals (rw [cell_of_row w gM _ _ _ _ h1]; assumption)
theorem KnSt.form {w0 w : World} {gA gR gS gM gF gL : Nat} (h : KnSt w0 gA gR gS gM gF gL w) (i : Nat) (hi : i < 29) : ∃ A n, FormAt w gF i (formR_ i) A n := by
  obtain ⟨cells, h1, h2⟩ := h.f
  obtain ⟨A, n, a, b, c⟩ := h2 i hi
  exact ⟨A, n, block_lt h1, by rw [cell_of_row w gF _ _ _ _ h1]; exact a, b, c⟩
theorem ask_wf : ∀ i, i < 12 → (Lit.int .i64 (askR i).c).wf = true ∧ (Lit.int .i64 (askR i).a).wf = true ∧ (Lit.int .i64 (askR i).n).wf = true := by decide
theorem more_wf : ∀ k, k < 16 → (Lit.int .i64 (moreR k).x).wf = true ∧ ∀ i, i < (moreR k).fs.length → (nthF (moreR k).fs i).length ≤ 2 := by decide
theorem form_len : ∀ k, k < 29 → (formR_ k).length ≤ 12 := by decide
/-- What the first inner loop holds. -/
structure LpA (w0 : World) (gA gR gS gM gF gL i k : Nat) (q : Req) (Ao As Ap : Option Addr) (lo ls lp co cs cp : Nat) (r : Rep) (Bo Bs Bf : Option Addr) (mo ms mf eo es ef : Nat) (w : World) : Prop where
  st : KnSt w0 gA gR gS gM gF gL w
  a : AskAt w gL i q Ao As Ap lo ls lp co cs cp
  r : RepAt w gM k r Bo Bs Bf mo ms mf eo es ef
structure LpB (w0 : World) (gA gR gS gM gF gL i k : Nat) (q : Req) (Ao As Ap : Option Addr) (lo ls lp co cs cp : Nat) (l : List Int) (A : Option Addr) (n : Nat) (w : World) : Prop where
  st : KnSt w0 gA gR gS gM gF gL w
  a : AskAt w gL i q Ao As Ap lo ls lp co cs cp
  f : FormAt w gF k l A n
structure LpC (w0 : World) (gA gR gS gM gF gL i : Nat) (q : Req) (Ao As Ap : Option Addr) (lo ls lp co cs cp : Nat) (w : World) : Prop where
  st : KnSt w0 gA gR gS gM gF gL w
  a : AskAt w gL i q Ao As Ap lo ls lp co cs cp
section
variable {w0 w w' : World} {gA gR gS gM gF gL i k : Nat} {q : Req} {Ao As Ap : Option Addr} {lo ls lp co cs cp : Nat} {r : Rep} {Bo Bs Bf : Option Addr} {mo ms mf eo es ef : Nat} {l : List Int} {A : Option Addr} {n : Nat}
theorem LpA.below (h : LpA w0 gA gR gS gM gF gL i k q Ao As Ap lo ls lp co cs cp r Bo Bs Bf mo ms mf eo es ef w) (hb : Below w.heap.size w w') : LpA w0 gA gR gS gM gF gL i k q Ao As Ap lo ls lp co cs cp r Bo Bs Bf mo ms mf eo es ef w' := ⟨h.st.below hb, h.a.below hb, h.r.below hb⟩
theorem LpB.below (h : LpB w0 gA gR gS gM gF gL i k q Ao As Ap lo ls lp co cs cp l A n w) (hb : Below w.heap.size w w') : LpB w0 gA gR gS gM gF gL i k q Ao As Ap lo ls lp co cs cp l A n w' := ⟨h.st.below hb, h.a.below hb, h.f.below hb⟩
theorem LpC.below (h : LpC w0 gA gR gS gM gF gL i q Ao As Ap lo ls lp co cs cp w) (hb : Below w.heap.size w w') : LpC w0 gA gR gS gM gF gL i q Ao As Ap lo ls lp co cs cp w' := ⟨h.st.below hb, h.a.below hb⟩
theorem LpA.drew (h : LpA w0 gA gR gS gM gF gL i k q Ao As Ap lo ls lp co cs cp r Bo Bs Bf mo ms mf eo es ef w) : LpA w0 gA gR gS gM gF gL i k q Ao As Ap lo ls lp co cs cp r Bo Bs Bf mo ms mf eo es ef w.drew := h.below ⟨rfl, rfl, rfl, Nat.le_refl _, fun _ _ => rfl⟩
theorem LpB.drew (h : LpB w0 gA gR gS gM gF gL i k q Ao As Ap lo ls lp co cs cp l A n w) : LpB w0 gA gR gS gM gF gL i k q Ao As Ap lo ls lp co cs cp l A n w.drew := h.below ⟨rfl, rfl, rfl, Nat.le_refl _, fun _ _ => rfl⟩
theorem LpA.cells (h : LpA w0 gA gR gS gM gF gL i k q Ao As Ap lo ls lp co cs cp r Bo Bs Bf mo ms mf eo es ef w) : (w.cell? ⟨gL, i * 6, none⟩ = some (.int .i64 q.c) ∧ w.cell? ⟨gL, i * 6 + 1, none⟩ = some (.int .i64 q.a) ∧ w.cell? ⟨gL, i * 6 + 2, none⟩ = some (.int .i64 q.n) ∧ w.cell? ⟨gL, i * 6 + 3, none⟩ = some (.slice Ao lo co) ∧ w.cell? ⟨gL, i * 6 + 4, none⟩ = some (.slice As ls cs) ∧ w.cell? ⟨gL, i * 6 + 5, none⟩ = some (.slice Ap lp cp)) ∧ w.cell? ⟨gM, k * 4, none⟩ = some (.int .i64 r.x) ∧ w.cell? ⟨gM, k * 4 + 1, none⟩ = some (.slice Bo mo eo) ∧ w.cell? ⟨gM, k * 4 + 2, none⟩ = some (.slice Bs ms es) ∧ w.cell? ⟨gM, k * 4 + 3, none⟩ = some (.slice Bf mf ef) := ⟨h.a.c, h.r.c⟩
theorem LpB.cells (h : LpB w0 gA gR gS gM gF gL i k q Ao As Ap lo ls lp co cs cp l A n w) : (w.cell? ⟨gL, i * 6, none⟩ = some (.int .i64 q.c) ∧ w.cell? ⟨gL, i * 6 + 1, none⟩ = some (.int .i64 q.a) ∧ w.cell? ⟨gL, i * 6 + 2, none⟩ = some (.int .i64 q.n) ∧ w.cell? ⟨gL, i * 6 + 3, none⟩ = some (.slice Ao lo co) ∧ w.cell? ⟨gL, i * 6 + 4, none⟩ = some (.slice As ls cs) ∧ w.cell? ⟨gL, i * 6 + 5, none⟩ = some (.slice Ap lp cp)) ∧ w.cell? ⟨gF, k, none⟩ = some (.slice A n n) := ⟨h.a.c, h.f.c⟩
def YesA (w0 : World) (gA gR gS gM gF gL i k : Nat) (q : Req) (Ao As Ap : Option Addr) (lo ls lp co cs cp : Nat) (r : Rep) (Bo Bs Bf : Option Addr) (mo ms mf eo es ef : Nat) (e : Ending) (w' : World) : Prop := e = .returned (.bool true) ∧ LpA w0 gA gR gS gM gF gL i k q Ao As Ap lo ls lp co cs cp r Bo Bs Bf mo ms mf eo es ef w'
def YesB_ (w0 : World) (gA gR gS gM gF gL i k : Nat) (q : Req) (Ao As Ap : Option Addr) (lo ls lp co cs cp : Nat) (l : List Int) (A : Option Addr) (n : Nat) (e : Ending) (w' : World) : Prop := e = .returned (.bool true) ∧ LpB w0 gA gR gS gM gF gL i k q Ao As Ap lo ls lp co cs cp l A n w'
def WfQ (q : Req) : Prop := (Lit.int .i64 q.c).wf = true ∧ (Lit.int .i64 q.a).wf = true ∧ (Lit.int .i64 q.n).wf = true
def WfR (r : Rep) (mf : Nat) : Prop := (Lit.int .i64 r.x).wf = true ∧ ∀ i, i < mf → (nthF r.fs i).length ≤ 70368744175616
theorem lp_checks (h : LpA w0 gA gR gS gM gF gL i k q Ao As Ap lo ls lp co cs cp r Bo Bs Bf mo ms mf eo es ef w) (hq : WfQ q) (hr : WfR r mf) : Calls Tryz.prog 6 #[.agg #[.int .i64 q.c, .int .i64 q.a, .int .i64 q.n, .slice Ao lo co, .slice As ls cs, .slice Ap lp cp], .agg #[.int .i64 r.x, .slice Bo mo eo, .slice Bs ms es, .slice Bf mf ef]] w (YesA w0 gA gR gS gM gF gL i k q Ao As Ap lo ls lp co cs cp r Bo Bs Bf mo ms mf eo es ef) :=
  (walk_ReplyChecks q Ao As Ap lo ls lp co cs cp r Bo Bs Bf mo ms mf eo es ef w h.a.ask hq h.r.rep hr.1).mono fun e w' ⟨he, hb⟩ => ⟨he, h.below hb⟩
theorem lp_puts (h : LpA w0 gA gR gS gM gF gL i k q Ao As Ap lo ls lp co cs cp r Bo Bs Bf mo ms mf eo es ef w) (hq : WfQ q) (hr : WfR r mf) : Calls Tryz.prog 7 #[.agg #[.int .i64 q.c, .int .i64 q.a, .int .i64 q.n, .slice Ao lo co, .slice As ls cs, .slice Ap lp cp], .agg #[.int .i64 r.x, .slice Bo mo eo, .slice Bs ms es, .slice Bf mf ef]] w (YesA w0 gA gR gS gM gF gL i k q Ao As Ap lo ls lp co cs cp r Bo Bs Bf mo ms mf eo es ef) :=
  (walk_ReplyPuts q Ao As Ap lo ls lp co cs cp r Bo Bs Bf mo ms mf eo es ef w h.a.ask hq h.r.rep hr.1 hr.2).mono fun e w' ⟨he, hb⟩ => ⟨he, h.below hb⟩
theorem lp_back (h : LpA w0 gA gR gS gM gF gL i k q Ao As Ap lo ls lp co cs cp r Bo Bs Bf mo ms mf eo es ef w) (hq : WfQ q) (hr : WfR r mf) (hi : i < 12) (hk : k < 16) : Calls Tryz.prog 8 #[.agg #[.int .i64 q.c, .int .i64 q.a, .int .i64 q.n, .slice Ao lo co, .slice As ls cs, .slice Ap lp cp], .agg #[.int .i64 r.x, .slice Bo mo eo, .slice Bs ms es, .slice Bf mf ef], .int .i64 k, .int .u8 i] w (YesA w0 gA gR gS gM gF gL i k q Ao As Ap lo ls lp co cs cp r Bo Bs Bf mo ms mf eo es ef) :=
  (walk_ReplyBack q Ao As Ap lo ls lp co cs cp r Bo Bs Bf mo ms mf eo es ef k i w h.a.ask hq h.r.rep hr.1 hr.2 (by simp [Lit.wf, IntKind.min, IntKind.max, IntKind.signed, IntKind.bits]; omega) (wf_byte i (by omega))).mono fun e w' ⟨he, hb⟩ => ⟨he, h.below hb⟩
theorem lp_gets (h : LpB w0 gA gR gS gM gF gL i k q Ao As Ap lo ls lp co cs cp l A n w) (hq : WfQ q) (hn : n ≤ 12) : Calls Tryz.prog 9 #[.agg #[.int .i64 q.c, .int .i64 q.a, .int .i64 q.n, .slice Ao lo co, .slice As ls cs, .slice Ap lp cp], .slice A n n] w (YesB_ w0 gA gR gS gM gF gL i k q Ao As Ap lo ls lp co cs cp l A n) :=
  (walk_ReplyGets q Ao As Ap lo ls lp co cs cp A n n l w h.a.ask hq h.f.row h.f.len (Nat.le_refl _) (by omega)).mono fun e w' ⟨he, hb⟩ => ⟨he, h.below hb⟩
theorem lp_forms (h : LpB w0 gA gR gS gM gF gL i k q Ao As Ap lo ls lp co cs cp l A n w) (hq : WfQ q) (hn : n ≤ 12) : Calls Tryz.prog 10 #[.agg #[.int .i64 q.c, .int .i64 q.a, .int .i64 q.n, .slice Ao lo co, .slice As ls cs, .slice Ap lp cp], .slice A n n] w (YesB_ w0 gA gR gS gM gF gL i k q Ao As Ap lo ls lp co cs cp l A n) :=
  (walk_ReplyForms q Ao As Ap lo ls lp co cs cp A n n l w h.a.ask hq h.f.row h.f.len (Nat.le_refl _) (by omega)).mono fun e w' ⟨he, hb⟩ => ⟨he, h.below hb⟩
theorem lp_exc (h : LpC w0 gA gR gS gM gF gL i q Ao As Ap lo ls lp co cs cp w) (hq : WfQ q) (x : Int) (hx : (Lit.int .i64 x).wf = true) : Calls Tryz.prog 11 #[.agg #[.int .i64 q.c, .int .i64 q.a, .int .i64 q.n, .slice Ao lo co, .slice As ls cs, .slice Ap lp cp], .int .i64 x] w fun e w' => e = .returned (.bool true) ∧ LpC w0 gA gR gS gM gF gL i q Ao As Ap lo ls lp co cs cp w' :=
  (walk_ReplyExceptions q Ao As Ap lo ls lp co cs cp x w h.a.ask hq hx).mono fun e w' ⟨he, hb⟩ => ⟨he, h.below hb⟩
end
end Go.Proofs.YtobhllcnljggiaaGreat
namespace Go.Proofs.YtobhllcnljggiaaGreat
open Go.RowKit
set_option linter.unusedVariables false

theorem OpOk.wp2 {ops : Array Oper} {Q : Exit → Act → World → Prop} {w0 : World} {gA gR gS : Nat} {listed : Array Bool} {i : Nat} {o : Oper} {a : Act} {w : World} (hJ : InvK w0 gA gR gS listed a w) (ho : ops[i]? = some o) (hd : o.dst = some (slotK i)) (hg : o.guard = none) (h : OpOk w0 gA gR gS listed i o) (hi : i < 39) :
    wpOp Tryz.prog ops Q i (fun a' w' => listed.size = ops.size → InvK w0 gA gR gS (listed.setIfInBounds i true) a' w') a w := h.wp hi ho hd hg hJ
theorem lit_lit (c f : Nat → Value) : lit c f = #[c 0, c 1, c 2, f 38, c 4, c 5, c 6, c 7, c 8, c 9, c 10, c 11, c 12, c 13, c 14, f 0, f 1, f 2, f 3, f 4, f 5, f 6, f 7, f 8, f 9, f 10, f 11, f 12, f 13, f 14, f 15, f 16, f 17, f 18, f 19, f 20, f 21, f 22, f 23, f 24, f 25, f 26, f 27, f 28, f 29, f 30, f 31, f 32, f 33, f 34, f 35, f 36, f 37, undef, undef, undef, undef, undef, undef, undef, undef, undef, undef, undef, undef, undef, undef, undef, undef, undef, undef, undef, undef, undef, undef, undef, undef, undef, undef, undef, undef, undef, undef, undef, undef, undef, undef, undef, undef, undef, undef, undef, undef, undef, undef, undef, undef, undef, undef, undef, undef, undef, undef, undef, undef, undef, undef, undef, undef, undef, undef, undef, undef, undef, undef, undef, undef, undef, undef, undef, undef, undef, undef, undef, undef, undef, undef, undef, undef, undef, undef, undef, undef, undef, undef, undef, undef, undef, undef, undef, undef, undef, undef, undef, undef, undef, undef, undef, undef, undef, undef, undef, undef, undef, undef, undef, undef, undef, undef, undef, undef, undef, undef, undef, undef, undef, undef, undef, undef, undef, undef, undef, undef, undef, undef, undef, undef, undef, undef, undef, undef, undef, undef, undef, undef, undef, undef, undef, undef, undef, undef, undef, undef, undef, undef, undef, undef, undef, undef, undef, undef] := by kernel_rfl
theorem InvK.start {w0 w : World} {gA gR gS : Nat} {x4 x5 x6 x7 x8 x9 x10 x11 x12 x13 x14 : Value} (b : Bs0 w0 gA gR gS w) : InvK w0 gA gR gS (Array.replicate 39 false) ⟨#[.bool false, .pointer (some ⟨gA, 0, none⟩), .pointer (some ⟨gR, 0, none⟩), undef, x4, x5, x6, x7, x8, x9, x10, x11, x12, x13, x14, undef, undef, undef, undef, undef, undef, undef, undef, undef, undef, undef, undef, undef, undef, undef, undef, undef, undef, undef, undef, undef, undef, undef, undef, undef, undef, undef, undef, undef, undef, undef, undef, undef, undef, undef, undef, undef, undef, undef, undef, undef, undef, undef, undef, undef, undef, undef, undef, undef, undef, undef, undef, undef, undef, undef, undef, undef, undef, undef, undef, undef, undef, undef, undef, undef, undef, undef, undef, undef, undef, undef, undef, undef, undef, undef, undef, undef, undef, undef, undef, undef, undef, undef, undef, undef, undef, undef, undef, undef, undef, undef, undef, undef, undef, undef, undef, undef, undef, undef, undef, undef, undef, undef, undef, undef, undef, undef, undef, undef, undef, undef, undef, undef, undef, undef, undef, undef, undef, undef, undef, undef, undef, undef, undef, undef, undef, undef, undef, undef, undef, undef, undef, undef, undef, undef, undef, undef, undef, undef, undef, undef, undef, undef, undef, undef, undef, undef, undef, undef, undef, undef, undef, undef, undef, undef, undef, undef, undef, undef, undef, undef, undef, undef, undef, undef, undef, undef, undef, undef, undef, undef, undef, undef, undef, undef, undef, undef, undef, undef, undef, undef, undef, undef, undef, undef, undef], []⟩ w := by
  refine ⟨b, fun n => [.bool false, .pointer (some ⟨gA, 0, none⟩), .pointer (some ⟨gR, 0, none⟩), undef, x4, x5, x6, x7, x8, x9, x10, x11, x12, x13, x14].getD n undef, fun _ => undef, ?_, ⟨rfl, rfl, rfl⟩, fun i hi hl => ?_⟩
  · rw [lit_lit]; kernel_rfl
  · have : (Array.replicate 39 false).getD i false = false := by
      rcases Nat.lt_or_ge i 39 with h | h
      · simp [h]
      · simp [h]
    rw [this] at hl; cases hl

set_option maxHeartbeats 8000000 in
set_option maxRecDepth 100000 in
theorem walk_ReplyKnown (w : World) : Calls Tryz.prog 3 #[] w fun e w' => e = .returned (.bool true) ∧ Below w.heap.size w w' := by
  go_enter Tryz.func3, Tryz.ntmps3
  go_wp2_with fail
  refine (two_any _).mono ?_
  rintro e w1 ⟨gS, hgS, rfl, hbS, b1⟩
  have bA := bel_alloc w1 (.cells #[.int .i64 3, .int .i64 0, .int .i64 2, .slice none 0 0, .slice none 0 0, .slice none 0 0] 26)
  have bB := bel_alloc (w1.alloc (.cells #[.int .i64 3, .int .i64 0, .int .i64 2, .slice none 0 0, .slice none 0 0, .slice none 0 0] 26)) (.cells #[.int .i64 0, .slice none 0 0, .slice (some ⟨gS, 0, none⟩) 2 2, .slice none 0 0] 29)
  have hzA : (w1.alloc (.cells #[.int .i64 3, .int .i64 0, .int .i64 2, .slice none 0 0, .slice none 0 0, .slice none 0 0] 26)).heap.size = w1.heap.size + 1 := by simp
  have base : Hid (Bs0 w w1.heap.size (w1.heap.size + 1) gS ((w1.alloc (.cells #[.int .i64 3, .int .i64 0, .int .i64 2, .slice none 0 0, .slice none 0 0, .slice none 0 0] 26)).alloc (.cells #[.int .i64 0, .slice none 0 0, .slice (some ⟨gS, 0, none⟩) 2 2, .slice none 0 0] 29))) := Lib.hid
    ⟨(b1.trans (bA.mono b1.size)).trans (bB.mono (by have := b1.size; omega)), (bB.block _ (by omega)).trans (heap_alloc_new w1 _), heap_new_at _ _ hzA, (bB.block gS (by have := block_lt hbS; omega)).trans ((bA.block gS (block_lt hbS)).trans hbS)⟩
  clear b1 hbS bA bB hzA
  go_wp2_with fail
  generalize (w1.alloc (.cells #[.int .i64 3, .int .i64 0, .int .i64 2, .slice none 0 0, .slice none 0 0, .slice none 0 0] 26)).alloc (.cells #[.int .i64 0, .slice none 0 0, .slice (some ⟨gS, 0, none⟩) 2 2, .slice none 0 0] 29) = wb at *
  obtain ⟨gA, hgA⟩ : ∃ g, w1.heap.size = g := ⟨_, rfl⟩
  rw [hgA] at base ⊢
  refine wp_region_hold tabD (InvK w gA (gA + 1) gS) (by kernel_rfl) (by kernel_rfl) (by decide) ?_ ?_ ?_
  · intro i hi listed a wr hJ hd
    have hi39 : i < 39 := hi
    clear hi
    obtain rfl | rfl | rfl | rfl | rfl | rfl | rfl | rfl | rfl | rfl | rfl | rfl | rfl | rfl | rfl | rfl | rfl | rfl | rfl | rfl | rfl | rfl | rfl | rfl | rfl | rfl | rfl | rfl | rfl | rfl | rfl | rfl | rfl | rfl | rfl | rfl | rfl | rfl | rfl : i = 0 ∨ i = 1 ∨ i = 2 ∨ i = 3 ∨ i = 4 ∨ i = 5 ∨ i = 6 ∨ i = 7 ∨ i = 8 ∨ i = 9 ∨ i = 10 ∨ i = 11 ∨ i = 12 ∨ i = 13 ∨ i = 14 ∨ i = 15 ∨ i = 16 ∨ i = 17 ∨ i = 18 ∨ i = 19 ∨ i = 20 ∨ i = 21 ∨ i = 22 ∨ i = 23 ∨ i = 24 ∨ i = 25 ∨ i = 26 ∨ i = 27 ∨ i = 28 ∨ i = 29 ∨ i = 30 ∨ i = 31 ∨ i = 32 ∨ i = 33 ∨ i = 34 ∨ i = 35 ∨ i = 36 ∨ i = 37 ∨ i = 38 := by omega
    · exact OpOk.wp2 hJ rfl rfl rfl (k_0 rfl ) (by omega)
    · exact OpOk.wp2 hJ rfl rfl rfl (k_1 rfl ) (by omega)
    · exact OpOk.wp2 hJ rfl rfl rfl (k_2 rfl ) (by omega)
    · exact OpOk.wp2 hJ rfl rfl rfl (k_3 rfl ) (by omega)
    · exact OpOk.wp2 hJ rfl rfl rfl (k_4 rfl ) (by omega)
    · exact OpOk.wp2 hJ rfl rfl rfl (k_5 rfl ) (by omega)
    · exact OpOk.wp2 hJ rfl rfl rfl (k_6 rfl (hd 5 (by decide))) (by omega)
    · exact OpOk.wp2 hJ rfl rfl rfl (k_7 rfl (hd 6 (by decide))) (by omega)
    · exact OpOk.wp2 hJ rfl rfl rfl (k_8 rfl ) (by omega)
    · exact OpOk.wp2 hJ rfl rfl rfl (k_9 rfl (hd 8 (by decide))) (by omega)
    · exact OpOk.wp2 hJ rfl rfl rfl (k_10 rfl ) (by omega)
    · exact OpOk.wp2 hJ rfl rfl rfl (k_11 rfl (hd 10 (by decide))) (by omega)
    · exact OpOk.wp2 hJ rfl rfl rfl (k_12 rfl ) (by omega)
    · exact OpOk.wp2 hJ rfl rfl rfl (k_13 rfl (hd 12 (by decide))) (by omega)
    · exact OpOk.wp2 hJ rfl rfl rfl (k_14 rfl ) (by omega)
    · exact OpOk.wp2 hJ rfl rfl rfl (k_15 rfl (hd 14 (by decide))) (by omega)
    · exact OpOk.wp2 hJ rfl rfl rfl (k_16 rfl (hd 15 (by decide))) (by omega)
    · exact OpOk.wp2 hJ rfl rfl rfl (k_17 rfl (hd 16 (by decide))) (by omega)
    · exact OpOk.wp2 hJ rfl rfl rfl (k_18 rfl ) (by omega)
    · exact OpOk.wp2 hJ rfl rfl rfl (k_19 rfl (hd 18 (by decide))) (by omega)
    · exact OpOk.wp2 hJ rfl rfl rfl (k_20 rfl ) (by omega)
    · exact OpOk.wp2 hJ rfl rfl rfl (k_21 rfl (hd 19 (by decide)) (hd 20 (by decide))) (by omega)
    · exact OpOk.wp2 hJ rfl rfl rfl (k_22 rfl ) (by omega)
    · exact OpOk.wp2 hJ rfl rfl rfl (k_23 rfl (hd 22 (by decide))) (by omega)
    · exact OpOk.wp2 hJ rfl rfl rfl (k_24 rfl (hd 23 (by decide))) (by omega)
    · exact OpOk.wp2 hJ rfl rfl rfl (k_25 rfl ) (by omega)
    · exact OpOk.wp2 hJ rfl rfl rfl (k_26 rfl ) (by omega)
    · exact OpOk.wp2 hJ rfl rfl rfl (k_27 rfl (hd 25 (by decide)) (hd 26 (by decide))) (by omega)
    · exact OpOk.wp2 hJ rfl rfl rfl (k_28 rfl (hd 27 (by decide))) (by omega)
    · exact OpOk.wp2 hJ rfl rfl rfl (k_29 rfl ) (by omega)
    · exact OpOk.wp2 hJ rfl rfl rfl (k_30 rfl ) (by omega)
    · exact OpOk.wp2 hJ rfl rfl rfl (k_31 rfl (hd 29 (by decide)) (hd 30 (by decide))) (by omega)
    · exact OpOk.wp2 hJ rfl rfl rfl (k_32 rfl (hd 31 (by decide))) (by omega)
    · exact OpOk.wp2 hJ rfl rfl rfl (k_33 rfl ) (by omega)
    · exact OpOk.wp2 hJ rfl rfl rfl (k_34 rfl (hd 33 (by decide))) (by omega)
    · exact OpOk.wp2 hJ rfl rfl rfl (k_35 rfl ) (by omega)
    · exact OpOk.wp2 hJ rfl rfl rfl (k_36 rfl (hd 35 (by decide))) (by omega)
    · exact OpOk.wp2 hJ rfl rfl rfl (k_37 rfl (hd 0 (by decide)) (hd 1 (by decide)) (hd 2 (by decide)) (hd 3 (by decide)) (hd 4 (by decide)) (hd 7 (by decide)) (hd 9 (by decide)) (hd 11 (by decide)) (hd 13 (by decide)) (hd 17 (by decide)) (hd 21 (by decide)) (hd 24 (by decide)) (hd 28 (by decide)) (hd 32 (by decide)) (hd 34 (by decide)) (hd 36 (by decide))) (by omega)
    · exact OpOk.wp2 hJ rfl rfl rfl (k_38 rfl (hd 37 (by decide))) (by omega)
  rotate_left
  · exact InvK.start (base.out.below ⟨rfl, rfl, rfl, Nat.le_refl _, fun _ _ => rfl⟩)
  intro listed a w2 hJ hall
  obtain ⟨bs, c, f, rfl, ⟨c0, c1, c2⟩, hf⟩ := hJ
  obtain ⟨gM, e38, hM⟩ : Kd.ok .all (f 38) w2 := hf 38 (by omega) (hall 38 (by decide))
  rw [lit_lit, c0, c1, c2, e38]
  have hF := Lib.hid (forms_at w2)
  have bF := Lib.hid (allocs_bel w2 (formO w2))
  have BS := Lib.hid bs
  have HM := Lib.hid hM
  clear hf hall bs hM base c0 c1 c2 e38
  generalize hgR : gA + 1 = gR at *
  go_wp2_with fail
  obtain ⟨gF, hgF⟩ : ∃ g, w2.heap.size + 1 + 1 + 1 + 1 + 1 + 1 + 1 + 1 + 1 + 1 + 1 + 1 + 1 + 1 + 1 + 1 + 1 + 1 + 1 + 1 + 1 + 1 + 1 + 1 + 1 + 1 + 1 + 1 = g := ⟨_, rfl⟩
  rw [hgF]
  refine (asks_any _).mono ?_
  rintro e w3 ⟨gL, rfl, hL, b3⟩
  have kn : KnSt w gA gR gS gM gF gL w3 := ⟨(BS.out.below bF.out).below b3, (HM.out.below bF.out).below b3, (hgF ▸ hF.out : FormsAt (allocs w2 (formO w2)) gF).below b3, hL⟩
  clear hF bF BS HM hL b3 hgF hgR hgA
  go_wp2_with fail
  go_loopw [6] (fun i wr => ∃ a : Nat, a ≤ 12 ∧ i = .int .i64 a ∧ KnSt w gA gR gS gM gF gL wr) (fun i _ => 12 - (intOf i).toNat)
  case atStart => exact ⟨0, by omega, rfl, kn⟩
  case round =>
    clear kn
    obtain ⟨a, ha, rfl, k1⟩ := hrel
    by_cases hlt : a < 12
    · have hltI : (a : Int) < 12 := by omega
      have hqw : WfQ (askR a) := ask_wf a hlt
      go_wp2_with fail
      go_loopw [7] (fun i wr => ∃ b : Nat, b ≤ 16 ∧ i = .int .i64 b ∧ KnSt w gA gR gS gM gF gL wr) (fun i _ => 16 - (intOf i).toNat)
      case atStart => exact ⟨0, by omega, rfl, k1⟩
      case round =>
        obtain ⟨b, hb, rfl, k2⟩ := hrel
        by_cases hltb : b < 16
        · have hltbI : (b : Int) < 16 := by omega
          obtain ⟨Ao, As, Ap, lo, ls, lp, co, cs, cp, at2⟩ := k2.ask a hlt
          obtain ⟨Bo, Bs, Bf, mo, ms, mf, eo, es, ef, rt2⟩ := k2.rep b hltb
          have hrw : WfR (moreR b) mf := ⟨(more_wf b hltb).1, fun i hi => by have := (more_wf b hltb).2 i (by rw [rt2.rep.mf]; exact hi); omega⟩
          have h3 : LpA w gA gR gS gM gF gL a b (askR a) Ao As Ap lo ls lp co cs cp (moreR b) Bo Bs Bf mo ms mf eo es ef wr := ⟨k2, at2, rt2⟩
          have ew : IntKind.u8.wrap (a : Int) = (a : Int) := by rw [IntKind.wrap_u8]; omega
          have i0 : (0 : Int) ≤ (a : Int) := by omega
          have i1 : (0 : Int) ≤ (b : Int) := by omega
          clear at2 rt2 k2
          generalize askR a = q at *
          generalize moreR b = r at *
          go_wp2_with fail
          go_region_held3 (fun w' => LpA w gA gR gS gM gF gL a b q Ao As Ap lo ls lp co cs cp r Bo Bs Bf mo ms mf eo es ef w' ∧ (w'.cell? ⟨gL, a * 6, none⟩ = some (.int .i64 q.c) ∧ w'.cell? ⟨gL, a * 6 + 1, none⟩ = some (.int .i64 q.a) ∧ w'.cell? ⟨gL, a * 6 + 2, none⟩ = some (.int .i64 q.n) ∧ w'.cell? ⟨gL, a * 6 + 3, none⟩ = some (.slice Ao lo co) ∧ w'.cell? ⟨gL, a * 6 + 4, none⟩ = some (.slice As ls cs) ∧ w'.cell? ⟨gL, a * 6 + 5, none⟩ = some (.slice Ap lp cp)) ∧ w'.cell? ⟨gM, b * 4, none⟩ = some (.int .i64 r.x) ∧ w'.cell? ⟨gM, b * 4 + 1, none⟩ = some (.slice Bo mo eo) ∧ w'.cell? ⟨gM, b * 4 + 2, none⟩ = some (.slice Bs ms es) ∧ w'.cell? ⟨gM, b * 4 + 3, none⟩ = some (.slice Bf mf ef))
            (with_reducible first
              | exact ⟨h3.drew, h3.drew.cells⟩
              | exact ⟨h4, h4.cells⟩
              | exact ⟨h5, h5.cells⟩
              | exact ⟨h6, h6.cells⟩
              | fail)
            (first
              | (go_at_call 6; refine (lp_checks h3.drew hqw hrw).mono ?_; rintro e w4 ⟨rfl, h4⟩)
              | (go_at_call 7; refine (lp_puts h4 hqw hrw).mono ?_; rintro e w5 ⟨rfl, h5⟩)
              | (go_at_call 8; refine (lp_back h5 hqw hrw hlt hltb).mono ?_; rintro e w6 ⟨rfl, h6⟩)
              | fail)
          have k3 := h6.st
          go_wp2
          go_roundw
          case rel => exact ⟨b + 1, by omega, by go_num, k3⟩
          case measure => simp [intOf]; omega
        · have hnb : ¬ ((b : Int) < 16) := by omega
          clear k1
          go_wp2_with fail
          go_loopw [8] (fun i wr => ∃ b : Nat, b ≤ 29 ∧ i = .int .i64 b ∧ KnSt w gA gR gS gM gF gL wr) (fun i _ => 29 - (intOf i).toNat)
          case atStart => exact ⟨0, by omega, rfl, k2⟩
          case round =>
            clear k2
            obtain ⟨b2, hb2, rfl, k4⟩ := hrel
            by_cases hltb2 : b2 < 29
            · have hltbI : (b2 : Int) < 29 := by omega
              obtain ⟨Ao, As, Ap, lo, ls, lp, co, cs, cp, at2⟩ := k4.ask a hlt
              obtain ⟨A, n, ft2⟩ := k4.form b2 hltb2
              have hn : n ≤ 12 := by have := form_len b2 hltb2; have := ft2.len; omega
              have h3 : LpB w gA gR gS gM gF gL a b2 (askR a) Ao As Ap lo ls lp co cs cp (formR_ b2) A n wr := ⟨k4, at2, ft2⟩
              have i0 : (0 : Int) ≤ (a : Int) := by omega
              have i1 : (0 : Int) ≤ (b2 : Int) := by omega
              clear at2 ft2 k4
              generalize askR a = q at *
              generalize formR_ b2 = l at *
              go_wp2_with fail
              go_region_held3 (fun w' => LpB w gA gR gS gM gF gL a b2 q Ao As Ap lo ls lp co cs cp l A n w' ∧ (w'.cell? ⟨gL, a * 6, none⟩ = some (.int .i64 q.c) ∧ w'.cell? ⟨gL, a * 6 + 1, none⟩ = some (.int .i64 q.a) ∧ w'.cell? ⟨gL, a * 6 + 2, none⟩ = some (.int .i64 q.n) ∧ w'.cell? ⟨gL, a * 6 + 3, none⟩ = some (.slice Ao lo co) ∧ w'.cell? ⟨gL, a * 6 + 4, none⟩ = some (.slice As ls cs) ∧ w'.cell? ⟨gL, a * 6 + 5, none⟩ = some (.slice Ap lp cp)) ∧ w'.cell? ⟨gF, b2, none⟩ = some (.slice A n n))
                (with_reducible first
                  | exact ⟨h3.drew, h3.drew.cells⟩
                  | exact ⟨h4, h4.cells⟩
                  | exact ⟨h5, h5.cells⟩
                  | fail)
                (first
                  | (go_at_call 9; refine (lp_gets h3.drew hqw hn).mono ?_; rintro e w4 ⟨rfl, h4⟩)
                  | (go_at_call 10; refine (lp_forms h4 hqw hn).mono ?_; rintro e w5 ⟨rfl, h5⟩)
                  | fail)
              have k5 := h5.st
              go_wp2
              go_roundw
              case rel => exact ⟨b2 + 1, by omega, by go_num, k5⟩
              case measure => simp [intOf]; omega
            · have hnb2 : ¬ ((b2 : Int) < 29) := by omega
              obtain ⟨Ao, As, Ap, lo, ls, lp, co, cs, cp, at2⟩ := k4.ask a hlt
              have h3 : LpC w gA gR gS gM gF gL a (askR a) Ao As Ap lo ls lp co cs cp wr := ⟨k4, at2⟩
              have i0 : (0 : Int) ≤ (a : Int) := by omega
              clear at2 k4
              generalize askR a = q at *
              obtain ⟨d0, d1, d2, d3, d4, d5⟩ := h3.a.c
              go_wp2_with fail
              refine (lp_exc h3 hqw 1 (by decide)).mono ?_
              rintro e w4 ⟨rfl, h4⟩
              clear d0 d1 d2 d3 d4 d5 h3
              obtain ⟨d0, d1, d2, d3, d4, d5⟩ := h4.a.c
              go_wp2_with fail
              refine (lp_exc h4 hqw 127 (by decide)).mono ?_
              rintro e w5 ⟨rfl, h5⟩
              clear d0 d1 d2 d3 d4 d5 h4
              obtain ⟨d0, d1, d2, d3, d4, d5⟩ := h5.a.c
              go_wp2_with fail
              refine (lp_exc h5 hqw 128 (by decide)).mono ?_
              rintro e w6 ⟨rfl, h6⟩
              clear d0 d1 d2 d3 d4 d5 h5
              obtain ⟨d0, d1, d2, d3, d4, d5⟩ := h6.a.c
              go_wp2_with fail
              refine (lp_exc h6 hqw (-9223372036854775808) (by decide)).mono ?_
              rintro e w7 ⟨rfl, h7⟩
              clear d0 d1 d2 d3 d4 d5 h6
              have k8 := h7.st
              go_wp2
              go_roundw
              case rel => exact ⟨a + 1, by omega, by go_num, k8⟩
              case measure => simp [intOf]; omega
    · obtain rfl : a = 12 := by omega
      obtain ⟨⟨d0, d1, d2⟩, ⟨d3, d4, d5⟩, d6⟩ := cells6 k1.bs.a
      have hrow := Lib.hid ((Row.of_block (l := [3, 3, 0, 1, 2, 0]) (heap_alloc_new wr (.cells #[.int .u8 3, .int .u8 3, .int .u8 0, .int .u8 1, .int .u8 2, .int .u8 0] 5)) [3, 3, 0, 1, 2, 0] (by decide) (List.prefix_refl _)).more (B' := (wr.alloc (.cells #[.int .u8 3, .int .u8 3, .int .u8 0, .int .u8 1, .int .u8 2, .int .u8 0] 5)).heap.size) (by simp))
      have hE4 : getRE exA [3, 3, 0, 1, 2, 0] = 4 := by decide
      have HG := Lib.hid (rpGet_any exA none none none 0 0 0 0 0 0 (some ⟨wr.heap.size, 0, none⟩) 6 6 [3, 3, 0, 1, 2, 0] _ (Asked.of_nil _ _ 3 0 2) hrow.out rfl (by omega) (by omega))
      rw [hE4] at HG
      have bel := k1.bs.bel
      have kA := k1.below (bel_alloc wr (.cells #[.int .u8 3, .int .u8 3, .int .u8 0, .int .u8 1, .int .u8 2, .int .u8 0] 5))
      clear hE4 k1 hrow
      go_wp2_with fail
      clear d0 d1 d2 d3 d4 d5 d6
      refine HG.out.mono ?_
      rintro e w4 ⟨Bo, Bs, Bf, mo, ms, mf, eo, es, ef, rfl, rk, b4⟩
      have kB := (kA.below b4).below (bel_alloc w4 (.cells #[.int .i64 (getR exA [3, 3, 0, 1, 2, 0]).x, .slice Bo mo eo, .slice Bs ms es, .slice Bf mf ef] 29))
      clear rk b4 kA HG
      go_wp2_with fail
      refine (works_yes _).mono ?_
      rintro e w5 ⟨rfl, b5⟩
      go_wp2
      go_ret
      exact ⟨rfl, (kB.below b5).bs.bel⟩
end Go.Proofs.YtobhllcnljggiaaGreat
namespace Go.Proofs.YtobhllcnljggiaaGreat.replyKnown
open Go.ChangeShapes Go.WideShapes Go.ChangeAt Go.RowKit
open Go.ChangeMaps (open_string shut_string)
set_option linter.unusedVariables false

theorem own : ownKnob Tryz.prog.godebug = none := by kernel_rfl
theorem laidOut : laidOutB Tryz.prog = true := by kernel_rfl

set_option maxRecDepth 100000 in
theorem lifted (os : Os) (started : os.Started) (H : Type) (enc : TypeId × Value → H) :
    ReturnsInHanded {} Tryz.checked os 3 .any (Rows.replyKnownSpec.pre6 enc Tryz.prog Tryz.f3 Rows.replyKnownRow.domain false) (Rows.replyKnownSpec.post enc Tryz.prog Tryz.f3 false true false false) := by
  refine returnsInHanded_of_change_sized (C := Tryz.checked) own started (by kernel_rfl) Tryz.func3
    (ChangeSpec.witness6 (enc := enc) (C := Tryz.checked) false ⟨#[], #[], []⟩ 8 (by kernel_rfl) (by kernel_rfl) (by kernel_rfl) (by kernel_rfl)) ?_
  intro W base args ds gs before hval0 hW hcnd hsz0 _
  have hsz : (DataW.weightsEach Tryz.prog (Tryz.f3.params.toList ++ Rows.replyKnownSpec.plain.varTypes Tryz.prog) (ds ++ gs)).all (· ≤ reachBytes) = true := hsz0
  clear hsz0
  have hval : ∀ (j : Nat) t v, Tryz.f3.params[j]? = some t → args[j]? = some v → Value.okWide Tryz.prog W .any base t v := hval0
  have hW' := hW
  obtain ⟨p, q, hA0, hV, rfl, hfz, hnd⟩ := hW
  have hA : DataW.TrodAll enc Tryz.prog W 0 (fun _ => true) true Tryz.f3.params.toList args.toList ds p := hA0
  rw [Tryz.params3] at hA hval hsz
  obtain ⟨rfl, rfl, hargs⟩ := trodAll_none hA
  obtain ⟨rfl, rfl⟩ := trodVars_none hV
  clear hA0 hval0
  refine (walk_ReplyKnown  W ).mono fun e W' ⟨he, bel⟩ => ?_
  subst he
  exact ⟨_, rfl, _, _, _, [], _, [], hW', trodAll_mk1 (shut_bool Tryz.underlying4 _), trodAll_mk0, rfl, bel.frame _, fun h => by cases h⟩

theorem over : Rows.replyKnownRow.holds Tryz.pinned (OpenSpec.ofChange Rows.replyKnownSpec) :=
  OpenClaim.holds_of_wide 3 Tryz.f3 rfl rfl rfl rfl rfl rfl rfl ⟨rfl, rfl, rfl, rfl, rfl⟩ rfl rfl rfl rfl rfl (by kernel_rfl) Tryz.func3 (by kernel_rfl)
    (of_decide_eq_true (by kernel_rfl)) (by unfold Func.isWrapper; first | (rw [if_pos (by decide +kernel)]; kernel_rfl) | (rw [if_neg (by decide +kernel)]; exact ⟨rfl, rfl⟩))
    (fun os started H enc _ => lifted os started H enc)

theorem proved : Rows.ReplyKnownSaid := over
#print axioms proved
end Go.Proofs.YtobhllcnljggiaaGreat.replyKnown
