/-
  What AskKnown lays in memory, and what it says.
-/
import Derived.Test.YtojjcmkadmofdaaAskEndsKnown2
namespace Go.Proofs.Ytojjcmkadmofdaa
open Go.RowKit
set_option linter.unusedVariables false

def onL : List Bool := [true, false, true, true, false, false, true, true, true, false]
def Qs : Nat → Req
  | 0 => ⟨5, 172, 0, [true], [], []⟩
  | 1 => ⟨15, 19, 0, onL, [], []⟩
  | 2 => ⟨16, 1, 0, [], [10, 258], []⟩
  | _ => ⟨20, 0, 0, [], [], [4, 1, 2, 3, 9, 2]⟩
def Ps : Nat → List Int
  | 0 => [5, 0, 172, 255, 0]
  | 1 => [15, 0, 19, 0, 10, 2, 205, 1]
  | 2 => [16, 0, 1, 0, 2, 4, 0, 10, 1, 2]
  | _ => [20, 14, 6, 0, 4, 0, 1, 0, 2, 6, 0, 3, 0, 9, 0, 2]
def Aos (g : Nat) : Nat → Option Addr
  | 0 => some ⟨g + 1, 0, none⟩
  | 1 => some ⟨g, 0, none⟩
  | _ => none
def los : Nat → Nat
  | 0 => 1
  | 1 => 10
  | _ => 0
def Ass (g : Nat) : Nat → Option Addr
  | 2 => some ⟨g + 2, 0, none⟩
  | _ => none
def lss : Nat → Nat
  | 2 => 2
  | _ => 0
def Aps (g : Nat) : Nat → Option Addr
  | 3 => some ⟨g + 3, 0, none⟩
  | _ => none
def lps : Nat → Nat
  | 3 => 2
  | _ => 0
def pls : Nat → Nat
  | 0 => 5
  | 1 => 8
  | 2 => 10
  | _ => 16
theorem four {P : Nat → Prop} (h0 : P 0) (h1 : P 1) (h2 : P 2) (h3 : P 3) {k : Nat} (hk : k < 4) : P k := by
  rcases (show k = 0 ∨ k = 1 ∨ k = 2 ∨ k = 3 by omega) with rfl | rfl | rfl | rfl <;> assumption
theorem Qs_put {k : Nat} (hk : k < 4) : putL (Qs k) = Ps k ∧ chkQ (Qs k) = 0 := by
  refine four (P := fun k => putL (Qs k) = Ps k ∧ chkQ (Qs k) = 0) ?_ ?_ ?_ ?_ hk <;> exact ⟨by decide, by decide⟩
theorem Ps_get {k : Nat} (hk : k < 4) : getE (Ps k) = 0 ∧ getQ (Ps k) = Qs k := by
  have e : ∀ k, getE (Ps k) = 0 → rdQ (Ps k) = Qs k → getE (Ps k) = 0 ∧ getQ (Ps k) = Qs k := fun k h1 h2 => ⟨h1, by rw [getQ, if_pos h1, h2]⟩
  refine four (P := fun k => getE (Ps k) = 0 ∧ getQ (Ps k) = Qs k) ?_ ?_ ?_ ?_ hk
  · exact e 0 (by decide) rfl
  · exact e 1 (by decide) (by unfold rdQ; rfl)
  · exact e 2 (by decide) rfl
  · exact e 3 (by decide) rfl
theorem Ps_wf {k : Nat} (hk : k < 4) : ∀ x ∈ Ps k, (Lit.int .u8 x).wf = true := by
  refine four (P := fun k => ∀ x ∈ Ps k, (Lit.int .u8 x).wf = true) ?_ ?_ ?_ ?_ hk <;> decide
theorem Ps_len {k : Nat} (hk : k < 4) : (Ps k).length = pls k ∧ pls k ≤ 16 := by
  refine four (P := fun k => (Ps k).length = pls k ∧ pls k ≤ 16) ?_ ?_ ?_ ?_ hk <;> decide
def asksC (g : Nat) : Array Value :=
  #[.int .i64 5, .int .i64 172, .int .i64 0, .slice (some ⟨g + 1, 0, none⟩) 1 1, .slice none 0 0, .slice none 0 0,
    .int .i64 15, .int .i64 19, .int .i64 0, .slice (some ⟨g, 0, none⟩) 10 10, .slice none 0 0, .slice none 0 0,
    .int .i64 16, .int .i64 1, .int .i64 0, .slice none 0 0, .slice (some ⟨g + 2, 0, none⟩) 2 2, .slice none 0 0,
    .int .i64 20, .int .i64 0, .int .i64 0, .slice none 0 0, .slice none 0 0, .slice (some ⟨g + 3, 0, none⟩) 2 2]
def bytesC (g : Nat) : Array Value := #[.slice (some ⟨g + 5, 0, none⟩) 5 5, .slice (some ⟨g + 6, 0, none⟩) 8 8, .slice (some ⟨g + 7, 0, none⟩) 10 10, .slice (some ⟨g + 8, 0, none⟩) 16 16]
/-- What lies in memory behind the first statements, in ten blocks from g on. -/
structure Kn (w0 : World) (g : Nat) (W : World) : Prop where
  bel : Below g w0 W
  size : g + 10 ≤ W.heap.size
  b0 : W.heap[g]? = some (.cells (L.blk () onL) 4 (0, 0))
  b1 : W.heap[g + 1]? = some (.cells (L.blk () [true]) 4 (0, 0))
  b2 : W.heap[g + 2]? = some (.cells (blk .u16 [10, 258]) 45 (0, 0))
  b3 : W.heap[g + 3]? = some (.cells (blk .i64 [4, 1, 2, 3, 9, 2]) 47 (0, 0))
  asks : W.heap[g + 4]? = some (.cells (asksC g) 26 (0, 0))
  lists : ∀ k, k < 4 → W.heap[g + 5 + k]? = some (.cells (blk .u8 (Ps k)) 5 (0, 0))
  bytes : W.heap[g + 9]? = some (.cells (bytesC g) 32 (0, 0))
theorem Kn.below {w0 W W' : World} {g : Nat} (h : Kn w0 g W) (hb : Below W.heap.size W W') : Kn w0 g W' :=
  have hs := h.size
  ⟨h.bel.trans (hb.mono (by omega)), by have := hb.size; omega, (hb.block _ (by omega)).trans h.b0, (hb.block _ (by omega)).trans h.b1, (hb.block _ (by omega)).trans h.b2, (hb.block _ (by omega)).trans h.b3, (hb.block _ (by omega)).trans h.asks, fun k hk => (hb.block _ (by omega)).trans (h.lists k hk), (hb.block _ (by omega)).trans h.bytes⟩
theorem Kn.cells {w0 W : World} {g : Nat} (h : Kn w0 g W) {k : Nat} (hk : k < 4) :
    W.cell? ⟨g + 4, k * 6, none⟩ = some (.int .i64 (Qs k).c) ∧ W.cell? ⟨g + 4, k * 6 + 1, none⟩ = some (.int .i64 (Qs k).a) ∧ W.cell? ⟨g + 4, k * 6 + 2, none⟩ = some (.int .i64 (Qs k).n) ∧
    W.cell? ⟨g + 4, k * 6 + 3, none⟩ = some (.slice (Aos g k) (los k) (los k)) ∧ W.cell? ⟨g + 4, k * 6 + 4, none⟩ = some (.slice (Ass g k) (lss k) (lss k)) ∧ W.cell? ⟨g + 4, k * 6 + 5, none⟩ = some (.slice (Aps g k) (lps k) (lps k)) := by
  have hc : ∀ i, W.cell? ⟨g + 4, i, none⟩ = (asksC g)[i]? := fun i => cell_of_row W (g + 4) i _ _ _ h.asks
  simp only [hc]
  rcases (show k = 0 ∨ k = 1 ∨ k = 2 ∨ k = 3 by omega) with rfl | rfl | rfl | rfl <;> exact ⟨rfl, rfl, rfl, rfl, rfl, rfl⟩
theorem Kn.cell {w0 W : World} {g : Nat} (h : Kn w0 g W) {k : Nat} (hk : k < 4) : W.cell? ⟨g + 9, k, none⟩ = some (.slice (some ⟨g + 5 + k, 0, none⟩) (pls k) (pls k)) := by
  rw [cell_of_row W (g + 9) k _ _ _ h.bytes]
  rcases (show k = 0 ∨ k = 1 ∨ k = 2 ∨ k = 3 by omega) with rfl | rfl | rfl | rfl <;> rfl
theorem Kn.row {w0 W : World} {g : Nat} (h : Kn w0 g W) {k : Nat} (hk : k < 4) : Row .u8 W W.heap.size (some ⟨g + 5 + k, 0, none⟩) (Ps k) :=
  (Row.of_block (h.lists k hk) _ (Ps_wf hk) (List.prefix_refl _)).more (block_lt (h.lists k hk))
theorem Kn.asked {w0 W : World} {g : Nat} (h : Kn w0 g W) {k : Nat} (hk : k < 4) : Asked W W.heap.size (Qs k) (Aos g k) (Ass g k) (Aps g k) (los k) (lss k) (lps k) := by
  rcases (show k = 0 ∨ k = 1 ∨ k = 2 ∨ k = 3 by omega) with rfl | rfl | rfl | rfl
  · exact ⟨(L.Row.of_block h.b1 _ (fun _ _ => rfl) (List.prefix_refl _)).more (block_lt h.b1), Row.nil _ _ _ _, Row.nil _ _ _ _, rfl, rfl, rfl⟩
  · exact ⟨(L.Row.of_block h.b0 _ (fun _ _ => rfl) (List.prefix_refl _)).more (block_lt h.b0), Row.nil _ _ _ _, Row.nil _ _ _ _, rfl, rfl, rfl⟩
  · exact ⟨L.Row.nil _ _ _ _, (Row.of_block h.b2 _ (by decide) (List.prefix_refl _)).more (block_lt h.b2), Row.nil _ _ _ _, rfl, rfl, rfl⟩
  · exact ⟨L.Row.nil _ _ _ _, Row.nil _ _ _ _, (Row.of_block h.b3 _ (by decide) (List.prefix_refl _)).more (block_lt h.b3), rfl, rfl, rfl⟩
theorem lps_le {k : Nat} (hk : k < 4) : los k ≤ 10 ∧ lss k ≤ 2 ∧ lps k ≤ 2 := by
  refine four (P := fun k => los k ≤ 10 ∧ lss k ≤ 2 ∧ lps k ≤ 2) ?_ ?_ ?_ ?_ hk <;> decide

def Bs : Nat → List Int
  | 1 => [5, 0, 172, 18, 52]
  | 2 => [3, 0, 107, 0]
  | 3 => [3, 0, 107, 0, 3, 0]
  | 4 => [7]
  | 5 => [3, 0, 0, 0, 0]
  | 6 => [3, 255, 255, 0, 2]
  | 7 => [15, 0, 19, 0, 10, 2, 205, 5]
  | 8 => [20]
  | 9 => [20, 1, 6]
  | 10 => [20, 0]
  | 11 => [15, 0, 0, 0, 1]
  | _ => []
def bls : Nat → Nat
  | 1 => 5
  | 2 => 4
  | 3 => 6
  | 4 => 1
  | 5 => 5
  | 6 => 5
  | 7 => 8
  | 8 => 1
  | 9 => 3
  | 10 => 2
  | 11 => 5
  | _ => 0
def Bad (g : Nat) : Nat → Option Addr
  | 0 => none
  | k + 1 => some ⟨g + k, 0, none⟩
def EsL : List Int := [1, 4, 1, 2, 20, 22, 21, 4, 1, 4, 22, 1]
theorem twelve {P : Nat → Prop} (h0 : P 0) (h1 : P 1) (h2 : P 2) (h3 : P 3) (h4 : P 4) (h5 : P 5) (h6 : P 6) (h7 : P 7) (h8 : P 8) (h9 : P 9) (h10 : P 10) (h11 : P 11) {k : Nat} (hk : k < 12) : P k := by
  rcases (show k = 0 ∨ k = 1 ∨ k = 2 ∨ k = 3 ∨ k = 4 ∨ k = 5 ∨ k = 6 ∨ k = 7 ∨ k = 8 ∨ k = 9 ∨ k = 10 ∨ k = 11 by omega) with rfl | rfl | rfl | rfl | rfl | rfl | rfl | rfl | rfl | rfl | rfl | rfl <;> assumption
theorem Bs_facts {k : Nat} (hk : k < 12) : getE (Bs k) = nth EsL k ∧ (Bs k).length = bls k ∧ bls k ≤ 8 ∧ ∀ x ∈ Bs k, (Lit.int .u8 x).wf = true := by
  refine twelve (P := fun k => getE (Bs k) = nth EsL k ∧ (Bs k).length = bls k ∧ bls k ≤ 8 ∧ ∀ x ∈ Bs k, (Lit.int .u8 x).wf = true) ?_ ?_ ?_ ?_ ?_ ?_ ?_ ?_ ?_ ?_ ?_ ?_ hk <;> exact ⟨by decide, by decide, by decide, by decide⟩
def badC (g : Nat) : Array Value := #[.slice none 0 0, .slice (some ⟨g, 0, none⟩) 5 5, .slice (some ⟨g + 1, 0, none⟩) 4 4, .slice (some ⟨g + 2, 0, none⟩) 6 6, .slice (some ⟨g + 3, 0, none⟩) 1 1, .slice (some ⟨g + 4, 0, none⟩) 5 5, .slice (some ⟨g + 5, 0, none⟩) 5 5, .slice (some ⟨g + 6, 0, none⟩) 8 8, .slice (some ⟨g + 7, 0, none⟩) 1 1, .slice (some ⟨g + 8, 0, none⟩) 3 3, .slice (some ⟨g + 9, 0, none⟩) 2 2, .slice (some ⟨g + 10, 0, none⟩) 5 5]
structure Kb (w0 : World) (g : Nat) (W : World) : Prop where
  bel : Below g w0 W
  size : g + 13 ≤ W.heap.size
  lists : ∀ k, k < 11 → W.heap[g + k]? = some (.cells (blk .u8 (Bs (k + 1))) 5 (0, 0))
  bytes : W.heap[g + 11]? = some (.cells (badC g) 32 (0, 0))
  nos : W.heap[g + 12]? = some (.cells (blk .i64 EsL) 3 (0, 0))
theorem Kb.below {w0 W W' : World} {g : Nat} (h : Kb w0 g W) (hb : Below W.heap.size W W') : Kb w0 g W' :=
  have hs := h.size
  ⟨h.bel.trans (hb.mono (by omega)), by have := hb.size; omega, fun k hk => (hb.block _ (by omega)).trans (h.lists k hk), (hb.block _ (by omega)).trans h.bytes, (hb.block _ (by omega)).trans h.nos⟩
theorem Kb.cell {w0 W : World} {g : Nat} (h : Kb w0 g W) {k : Nat} (hk : k < 12) : W.cell? ⟨g + 11, k, none⟩ = some (.slice (Bad g k) (bls k) (bls k)) := by
  rw [cell_of_row W (g + 11) k _ _ _ h.bytes]
  exact twelve (P := fun k => (badC g)[k]? = some (.slice (Bad g k) (bls k) (bls k))) rfl rfl rfl rfl rfl rfl rfl rfl rfl rfl rfl rfl hk
theorem Kb.no {w0 W : World} {g : Nat} (h : Kb w0 g W) {k : Nat} (hk : k < 12) : W.cell? ⟨g + 12, k, none⟩ = some (.int .i64 (nth EsL k)) := by
  rw [cell_of_row W (g + 12) k _ _ _ h.nos, blk_get _ _ _ (by simpa [EsL] using hk)]
theorem Kb.row {w0 W : World} {g : Nat} (h : Kb w0 g W) {k : Nat} (hk : k < 12) : Row .u8 W W.heap.size (Bad g k) (Bs k) := by
  cases k with
  | zero => exact Row.nil _ _ _ _
  | succ k => exact (Row.of_block (h.lists k (by omega)) _ (Bs_facts hk).2.2.2 (List.prefix_refl _)).more (block_lt (h.lists k (by omega)))
theorem EsL_range {k : Nat} (hk : k < 12) : 0 ≤ nth EsL k ∧ nth EsL k ≤ 22 := by
  refine twelve (P := fun k => 0 ≤ nth EsL k ∧ nth EsL k ≤ 22) ?_ ?_ ?_ ?_ ?_ ?_ ?_ ?_ ?_ ?_ ?_ ?_ hk <;> decide
end Go.Proofs.Ytojjcmkadmofdaa
