/-
  Words for what a walk holds: blocks that are known whole, slices that are nil or fill a block, and entries for ApartBytes.
-/
import Derived.Test.YtemjcgmoacnnfaaCopy
import Derived.Test.YtemjcgmoacnnfaaBlock
namespace Go.Proofs.Ytemjcgmoacnnfaa
open Go.RowKit
set_option linter.unusedVariables false

theorem below_drewN {B : Nat} {a w : World} (h : Below B a w) (n : Nat) : Below B a (w.drewN n) := ⟨h.os, h.tape, h.output, h.size, h.block⟩
/-- Block g is just the row l. (A name: so the walk does not rewrite by it.) -/
def Bk (w : World) (g : Nat) (l : List Int) : Prop := w.heap[g]? = some (.cells (blk .u8 l) 5 (0, 0))
theorem Bk.below {w w' : World} {g : Nat} {l : List Int} (h : Bk w g l) (hb : Below w.heap.size w w') : Bk w' g l := (hb.block g (block_lt h)).trans h
theorem Bk.lt {w : World} {g : Nat} {l : List Int} (h : Bk w g l) : g < w.heap.size := block_lt h
theorem Bk.drewN {w : World} {g : Nat} {l : List Int} (h : Bk w g l) (n : Nat) : Bk (w.drewN n) g l := h
theorem Bk.row {w : World} {g : Nat} {l : List Int} (h : Bk w g l) (xs : List Int) (hw : ∀ x ∈ xs, (Lit.int .u8 x).wf = true) (hp : xs <+: l) : Row .u8 w w.heap.size (some ⟨g, 0, none⟩) xs :=
  (Row.of_block h xs hw hp).more h.lt
/-- A slice that is nil, or the beginning of block g. -/
def Li (w : World) (A : Option Addr) (m g : Nat) (l r : List Int) : Prop := A = none ∧ m = 0 ∨ A = some ⟨g, 0, none⟩ ∧ Bk w g (l ++ r)
theorem Li.below {w w' : World} {A : Option Addr} {m g : Nat} {l r : List Int} (h : Li w A m g l r) (hb : Below w.heap.size w w') : Li w' A m g l r := by
  rcases h with h | ⟨h1, h2⟩
  · exact .inl h
  · exact .inr ⟨h1, h2.below hb⟩
theorem Li.row {w : World} {A : Option Addr} {m g : Nat} {l r : List Int} (h : Li w A m g l r) (hm : l.length = m) (hw : ∀ x ∈ l, (Lit.int .u8 x).wf = true) : Row .u8 w w.heap.size A l := by
  rcases h with ⟨h1, h2⟩ | ⟨h1, h2⟩
  · have : l = [] := List.eq_nil_of_length_eq_zero (by omega)
    subst this
    exact Row.nil _ _ _ _
  · subst h1
    exact h2.row l hw (List.prefix_append _ _)
theorem bel_drewN (w : World) (n : Nat) : Below w.heap.size w (w.drewN n) := ⟨rfl, rfl, rfl, Nat.le_refl _, fun _ _ => rfl⟩

/-- A call returns a pair: a list that is nil or fills the first new block, and a number. -/
def Gives (w : World) (l : List Int) (err : Int) (e : Ending) (w' : World) : Prop :=
  ∃ A m, e = .returned (.tuple #[.slice A m m, .int .i64 err]) ∧ l.length = m ∧ Li w' A m w.heap.size l [] ∧ Below w.heap.size w w'
/-- A call returns a pair: a list of its own, and a number. -/
def GivesOwn (w : World) (l : List Int) (err : Int) (e : Ending) (w' : World) : Prop :=
  ∃ v, e = .returned (.tuple #[v, .int .i64 err]) ∧ Own .u8 5 w' w.heap.size v l ∧ Below w.heap.size w w'
theorem Li.lt {w : World} {A : Option Addr} {m g : Nat} {l r : List Int} (h : Li w A m g l r) : A = none ∨ g < w.heap.size := by
  rcases h with ⟨h1, _⟩ | ⟨_, h2⟩
  · exact .inl h1
  · exact .inr h2.lt
end Go.Proofs.Ytemjcgmoacnnfaa
