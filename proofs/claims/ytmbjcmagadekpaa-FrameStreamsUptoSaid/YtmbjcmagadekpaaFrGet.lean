/-
  Contracts of number, Clone and Get of package frame.
-/
import Derived.Test.YtmbjcmagadekpaaFrPut
import Derived.Test.YtmbjcmagadekpaaStep
import Derived.Test.YtmbjcmagadekpaaWhole
namespace Go.Proofs.Ytmbjcmagadekpaa
open Go.RowKit
set_option linter.unusedVariables false

theorem or_word (x y : Nat) (hy : y < 256) : (x * 256) ||| y = x * 256 + y := by
  have h := Nat.two_pow_add_eq_or_of_lt (i := 8) (b := y) (by omega) x
  rw [Nat.mul_comm x 256]
  exact h.symm
theorem or_i64 (x y : Int) (hx : 0 ≤ x ∧ x < 256) (hy : 0 ≤ y ∧ y < 256) : bits .or .i64 (x * 256) y = x * 256 + y := by
  obtain ⟨a, rfl⟩ := Int.eq_ofNat_of_zero_le hx.1
  obtain ⟨b, rfl⟩ := Int.eq_ofNat_of_zero_le hy.1
  show IntKind.i64.wrap ((BitVec.ofInt 64 ((a : Int) * 256) ||| BitVec.ofInt 64 (b : Int)).toNat : Int) = _
  have e1 : (a : Int) * 256 = ((a * 256 : Nat) : Int) := by omega
  have f1 : (BitVec.ofInt 64 ((a * 256 : Nat) : Int)).toNat = a * 256 := by rw [BitVec.ofInt_natCast, BitVec.toNat_ofNat]; exact Nat.mod_eq_of_lt (by omega)
  have f2 : (BitVec.ofInt 64 ((b : Nat) : Int)).toNat = b := by rw [BitVec.ofInt_natCast, BitVec.toNat_ofNat]; exact Nat.mod_eq_of_lt (by omega)
  rw [e1, BitVec.toNat_or, f1, f2, or_word a b (by omega)]
  exact IntWalk.i64_in _ (by omega)
theorem number_any (b o n c : Nat) (xs : List Int) (w : World) (B : Nat) (hr : Row .u8 w B (some ⟨b, o, none⟩) xs) (hn : xs.length = n) (h2 : 2 ≤ n) (hb : n ≤ 140737488355328) :
    Calls Try.prog 85 #[.slice (some ⟨b, o, none⟩) n c] w fun e w' => e = .returned (.int .i64 (nth xs 0 * 256 + nth xs 1)) ∧ ∃ m, w' = w.drewN m := by
  obtain ⟨b0, o0, e0, hb0, c0⟩ := hr.at_ (i := 0) (by omega)
  obtain ⟨b1, o1, e1, _, c1⟩ := hr.at_ (i := 1) (by omega)
  injection e0 with e0
  injection e0 with e01 e02
  injection e1 with e1
  injection e1 with e11 e12
  subst e01 e02 e11 e12
  have x0 := wf_u8 (hr.wf_at (i := 0) (by omega))
  have x1 := wf_u8 (hr.wf_at (i := 1) (by omega))
  have hor := or_i64 _ _ x0 x1
  rw [Nat.add_zero] at c0
  have t0 : (0 : Int) < (n : Int) := by omega
  have t1 : (1 : Int) < (n : Int) := by omega
  generalize nth xs 0 = x at *
  generalize nth xs 1 = y at *
  have ew : IntKind.i64.wrap (x * 256) = x * 256 := IntWalk.i64_in _ (by omega)
  clear hn hr h2
  go_enter Try.func85, Try.ntmps85
  go_wp2
  go_quiet (fail)
  go_wp2
  go_ret
  exact ⟨rfl, _, rfl⟩
/-- A call returns a new slice, its own, that holds xs; its block is known whole. -/
def MakesK (k : IntKind) (t : TypeId) (w : World) (xs : List Int) (e : Ending) (w' : World) : Prop := ∃ v, e = .returned v ∧ KOwn k t w' w.heap.size v xs ∧ Below w.heap.size w w'
theorem zeros_wf (m : Nat) : ∀ x ∈ List.replicate m (0 : Int), (Lit.int .u8 x).wf = true := fun x hx => by rw [List.eq_of_mem_replicate hx]; decide
/-- 'append([]byte{}, ..)' of a row that is not empty. -/
theorem append_new (b o n c : Nat) (xs : List Int) (w W : World) (hW : W = w.alloc (.cells #[] 5)) (hr : Row .u8 w w.heap.size (some ⟨b, o, none⟩) xs) (hn : xs.length = n) (h1 : 1 ≤ n) (hb : n ≤ 140737488351232) :
    ∃ cap w', (∀ ty, (Builtin.append_ #[34, 34] ty #[.slice (some ⟨w.heap.size, 0, none⟩) 0 0, .slice (some ⟨b, o, none⟩) n c]).run Try.prog W = .ok (.slice (some ⟨w.heap.size + 1, 0, none⟩) n cap) w') ∧ KOwn .u8 5 w' w.heap.size (.slice (some ⟨w.heap.size + 1, 0, none⟩) n cap) xs ∧ Below w.heap.size w w' ∧ w'.heap.size = w.heap.size + 2 := by
  subst hW
  have h := run_append_full (P := Try.prog) (w.alloc (.cells #[] 5)) 34 .u8 5 1 Try.underlying34 info_u8 w.heap.size 0 [] (heap_alloc_new w _) rfl _ _ n c xs (hr.alloc (Nat.le_refl _) _) hn h1 (by omega) (by simp only [maxLen]; omega)
  obtain ⟨cap, h2, h3, h4⟩ := h
  have hz : (w.alloc (.cells #[] 5)).heap.size = w.heap.size + 1 := by simp
  simp only [Nat.zero_add, List.nil_append, hz] at h2
  refine ⟨cap, _, h2, ?_, ?_, ?_⟩
  · refine .inr ⟨_, n, cap, List.replicate (cap - n) 0, rfl, by omega, hn, ?_, by omega, h4, by rw [List.length_replicate]; omega, zeros_wf _⟩
    have := heap_alloc_new ((w.alloc (.cells #[] 5)).drew) (.cells (blk .u8 (xs ++ List.replicate (cap - n) 0)) 5)
    rw [show ((w.alloc (.cells #[] 5)).drew).heap.size = w.heap.size + 1 from hz] at this
    exact this
  · exact (below_drew (bel_alloc w _)).alloc (by show _ ≤ (w.alloc _).heap.size; omega) _
  · show ((w.alloc (.cells #[] 5)).drew.alloc _).heap.size = _
    have : ((w.alloc (.cells #[] 5)).drew).heap.size = w.heap.size + 1 := hz
    simp [this]
set_option maxRecDepth 100000 in
theorem Clone_row (b o n c : Nat) (xs : List Int) (w : World) (hr : Row .u8 w w.heap.size (some ⟨b, o, none⟩) xs) (hn : xs.length = n) (h1 : 1 ≤ n) (hb : n ≤ 140737488351232) :
    Calls Try.prog 86 #[.slice (some ⟨b, o, none⟩) n c] w (MakesK .u8 5 w xs) := by
  obtain ⟨cap, w1, hap, hk, hbel, _⟩ := append_new b o n c xs w _ rfl hr hn h1 hb
  have HK := Lib.hid hk
  clear hr hn hk
  have he : ∀ W : World, (binOp .eql 34 (.slice (some ⟨b, o, none⟩) n c) (.slice none 0 0)).run Try.prog W = .ok (.bool false) W := fun _ => rfl
  go_enter Try.func86, Try.ntmps86
  go_wp2_with (at_builtin; refine wpList_append_run _ rfl (.tmp 5) (.tmp 6) 34 rfl (.slice (some ⟨w.heap.size, 0, none⟩) 0 0) (.slice (some ⟨b, o, none⟩) n c) (.slice (some ⟨w.heap.size + 1, 0, none⟩) n cap) w1 rfl rfl hap ?_)
  go_ret
  exact ⟨_, rfl, HK.out, hbel⟩
end Go.Proofs.Ytmbjcmagadekpaa
