/-
  Contracts of is, part and ends.
-/
import Derived.Test.YtojjcmkadmofdaaAskKnown0
namespace Go.Proofs.Ytojjcmkadmofdaa
open Go.RowKit
set_option linter.unusedVariables false

theorem is_any (q : Req) (E : Int) (Ao As Ap : Option Addr) (lo ls lp co cs cp : Nat) (w : World) (h : Asked w w.heap.size q Ao As Ap lo ls lp) (hk : chkQ q = E) :
    Calls Try.prog 63 #[.agg #[.int .i64 q.c, .int .i64 q.a, .int .i64 q.n, .slice Ao lo co, .slice As ls cs, .slice Ap lp cp], .int .i64 E] w fun e w' => e = .returned (.bool true) ∧ Below w.heap.size w w' := by
  have HC := Lib.hid (Check_Q q Ao As Ap lo ls lp co cs cp _ (h.upAlloc (.cells #[.int .i64 q.c, .int .i64 q.a, .int .i64 q.n, .slice Ao lo co, .slice As ls cs, .slice Ap lp cp] 26)))
  rw [hk] at HC
  have tE : (E == E) = true := by simp
  clear hk h
  go_enter Try.func63, Try.ntmps63
  go_wp2_with fail
  refine HC.out.mono ?_
  rintro e w1 ⟨rfl, b1⟩
  go_wp2
  go_ret
  exact ⟨by simp, (bel_alloc w _).trans (b1.mono (by simp))⟩
def Yes (w : World) (e : Ending) (w' : World) : Prop := e = .returned (.bool true) ∧ Below w.heap.size w w'
theorem is_nil (c a n E : Int) (w : World) (hk : chkQ ⟨c, a, n, [], [], []⟩ = E) :
    Calls Try.prog 63 #[.agg #[.int .i64 c, .int .i64 a, .int .i64 n, .slice none 0 0, .slice none 0 0, .slice none 0 0], .int .i64 E] w (Yes w) :=
  is_any ⟨c, a, n, [], [], []⟩ E none none none 0 0 0 0 0 0 w (Asked.of_nil _ _ _ _ _) hk
def falses (n : Nat) : Array Value := L.blk () (List.replicate n false)
def noughts (n : Nat) : Array Value := blk .u16 (List.replicate n 0)
def noParts (n : Nat) : Array Value := blk .i64 (List.replicate (3 * n) 0)
theorem is_bits (c E : Int) (n g : Nat) (w : World) (hg : w.heap[g]? = some (.cells (falses n) 4 (0, 0))) (hk : chkQ ⟨c, 0, 0, List.replicate n false, [], []⟩ = E) :
    Calls Try.prog 63 #[.agg #[.int .i64 c, .int .i64 0, .int .i64 0, .slice (some ⟨g, 0, none⟩) n n, .slice none 0 0, .slice none 0 0], .int .i64 E] w (Yes w) :=
  is_any ⟨c, 0, 0, List.replicate n false, [], []⟩ E (some ⟨g, 0, none⟩) none none n 0 0 n 0 0 w ⟨(L.Row.of_block hg _ (fun _ _ => rfl) (List.prefix_refl _)).more (block_lt hg), Row.nil _ _ _ _, Row.nil _ _ _ _, by simp, rfl, rfl⟩ hk
theorem is_words (c a E : Int) (n g : Nat) (w : World) (hg : w.heap[g]? = some (.cells (noughts n) 45 (0, 0))) (hk2 : chkQ ⟨c, a, 0, [], List.replicate n 0, []⟩ = E) :
    Calls Try.prog 63 #[.agg #[.int .i64 c, .int .i64 a, .int .i64 0, .slice none 0 0, .slice (some ⟨g, 0, none⟩) n n, .slice none 0 0], .int .i64 E] w (Yes w) :=
  is_any ⟨c, a, 0, [], List.replicate n 0, []⟩ E none (some ⟨g, 0, none⟩) none 0 n 0 0 n 0 w ⟨L.Row.nil _ _ _ _, (Row.of_block hg _ (fun x hx => by rw [List.eq_of_mem_replicate hx]; decide) (List.prefix_refl _)).more (block_lt hg), Row.nil _ _ _ _, rfl, by simp, rfl⟩ hk2
theorem is_five (c n E : Int) (g : Nat) (w : World) (hg : w.heap[g]? = some (.cells #[.int .u16 5] 45 (0, 0))) (hk : chkQ ⟨c, 0, n, [], [5], []⟩ = E) :
    Calls Try.prog 63 #[.agg #[.int .i64 c, .int .i64 0, .int .i64 n, .slice none 0 0, .slice (some ⟨g, 0, none⟩) 1 1, .slice none 0 0], .int .i64 E] w (Yes w) :=
  is_any ⟨c, 0, n, [], [5], []⟩ E none (some ⟨g, 0, none⟩) none 0 1 0 0 1 0 w ⟨L.Row.nil _ _ _ _, (Row.of_block (l := [5]) hg [5] (by decide) (List.prefix_refl _)).more (block_lt hg), Row.nil _ _ _ _, rfl, rfl, rfl⟩ hk
theorem is_parts (E f r n : Int) (g : Nat) (w : World) (hg : w.heap[g]? = some (.cells (blk .i64 [f, r, n]) 47 (0, 0))) (hw : ∀ x ∈ [f, r, n], (Lit.int .i64 x).wf = true) (hk : chkQ ⟨20, 0, 0, [], [], [f, r, n]⟩ = E) :
    Calls Try.prog 63 #[.agg #[.int .i64 20, .int .i64 0, .int .i64 0, .slice none 0 0, .slice none 0 0, .slice (some ⟨g, 0, none⟩) 1 1], .int .i64 E] w (Yes w) :=
  is_any ⟨20, 0, 0, [], [], [f, r, n]⟩ E none none (some ⟨g, 0, none⟩) 0 0 1 0 0 1 w ⟨L.Row.nil _ _ _ _, Row.nil _ _ _ _, (Row.of_block hg _ hw (List.prefix_refl _)).more (block_lt hg), rfl, rfl, rfl⟩ hk
theorem is_noParts (E : Int) (n g : Nat) (w : World) (hg : w.heap[g]? = some (.cells (noParts n) 47 (0, 0))) (hk : chkQ ⟨20, 0, 0, [], [], List.replicate (3 * n) 0⟩ = E) :
    Calls Try.prog 63 #[.agg #[.int .i64 20, .int .i64 0, .int .i64 0, .slice none 0 0, .slice none 0 0, .slice (some ⟨g, 0, none⟩) n n], .int .i64 E] w (Yes w) :=
  is_any ⟨20, 0, 0, [], [], List.replicate (3 * n) 0⟩ E none none (some ⟨g, 0, none⟩) 0 0 n 0 0 n w ⟨L.Row.nil _ _ _ _, Row.nil _ _ _ _, (Row.of_block hg _ (fun x hx => by rw [List.eq_of_mem_replicate hx]; decide) (List.prefix_refl _)).more (block_lt hg), rfl, rfl, by simp⟩ hk
theorem part_any (f r n : Int) (w : World) :
    Calls Try.prog 64 #[.int .i64 f, .int .i64 r, .int .i64 n] w fun e w' => ∃ g, Hid (w.heap.size + 1 = g) ∧ e = .returned (.agg #[.int .i64 20, .int .i64 0, .int .i64 0, .slice none 0 0, .slice none 0 0, .slice (some ⟨g, 0, none⟩) 1 1]) ∧ w'.heap[g]? = some (.cells (blk .i64 [f, r, n]) 47 (0, 0)) ∧ Below w.heap.size w w' := by
  go_enter Try.func64, Try.ntmps64
  go_wp2
  (try simp only [Exit.inBlock, Exit.then])
  refine bodyPost_ret (v := .agg #[.int .i64 20, .int .i64 0, .int .i64 0, .slice none 0 0, .slice none 0 0, .slice (some ⟨w.heap.size + 1, 0, none⟩) 1 1]) (by simp [results, Try.results64, go_sem]) rfl ?_
  exact ⟨_, Lib.hid rfl, rfl, heap_new_at _ _ (by simp), (bel_alloc w _).alloc (by simp) _⟩
/-- A call in a row of calls: what was kept is kept. -/
theorem yes_step {w0 w w' : World} (h : Below w0.heap.size w0 w) (hb : Below w.heap.size w w') : Below w0.heap.size w0 w' := h.trans (hb.mono h.size)
end Go.Proofs.Ytojjcmkadmofdaa
