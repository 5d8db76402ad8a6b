/-
  The program's Check of layer 11.
-/
import Derived.Test.YtemjcgmoacnnfaaRcMath
import Derived.Test.YtemjcgmoacnnfaaBox
import Derived.Test.YtemjcgmoacnnfaaTgOwnName
import Derived.LoopTactic
namespace Go.Proofs.Ytemjcgmoacnnfaa
open Go.RowKit
set_option linter.unusedVariables false

theorem Bx.five {w0 w : World} {g : Nat} {t : TypeId} {v0 v1 v2 v3 v4 : Value} (h : Bx w0 g (.cells #[v0, v1, v2, v3, v4] t (0, 0)) w) :
    w.cell? ⟨g, 0, none⟩ = some v0 ∧ w.cell? ⟨g, 1, none⟩ = some v1 ∧ w.cell? ⟨g, 2, none⟩ = some v2 ∧ w.cell? ⟨g, 3, none⟩ = some v3 ∧ w.cell? ⟨g, 4, none⟩ = some v4 :=
  ⟨cell_of_row _ _ 0 _ _ _ h.1, cell_of_row _ _ 1 _ _ _ h.1, cell_of_row _ _ 2 _ _ _ h.1, cell_of_row _ _ 3 _ _ _ h.1, cell_of_row _ _ 4 _ _ _ h.1⟩

theorem lies11_any (v a b : Int) (w : World) : Calls Try.prog 31 #[.int .i64 v, .int .i64 a, .int .i64 b] w fun e w' => e = .returned (.bool (betw v a b)) ∧ w = w' := by
  by_cases h : v ≥ a
  · have HB : Hid (betw v a b = decide (v ≤ b)) := Lib.hid (by unfold betw; rw [decide_eq_true h, Bool.true_and])
    rw [HB.out]
    go_enter Try.func31, Try.ntmps31
    go_wp2
    go_ret
    exact ⟨rfl, rfl⟩
  · have HB : Hid (betw v a b = false) := Lib.hid (by unfold betw; rw [decide_eq_false h, Bool.false_and])
    rw [HB.out]
    go_enter Try.func31, Try.ntmps31
    go_wp2
    go_ret
    exact ⟨rfl, rfl⟩
theorem isKind_any (k : Int) (w : World) : Calls Try.prog 29 #[.int .i64 k] w fun e w' => e = .returned (.bool (betw k 1 6)) ∧ w = w' := by
  go_enter Try.func29, Try.ntmps29
  go_wp2_with fail
  refine (lies11_any _ _ _ _).mono ?_
  rintro e w' ⟨rfl, rfl⟩
  go_wp2
  go_ret
  exact ⟨rfl, rfl⟩
theorem hasTag_any (k : Int) (w : World) : Calls Try.prog 22 #[.int .i64 k] w fun e w' => e = .returned (.bool (tgK k)) ∧ w = w' := by
  by_cases h : k = 1
  · subst h
    go_enter Try.func22, Try.ntmps22
    go_wp2
    go_ret
    exact ⟨rfl, rfl⟩
  by_cases h2 : k = 2
  · subst h2
    go_enter Try.func22, Try.ntmps22
    go_wp2
    go_ret
    exact ⟨rfl, rfl⟩
  have HB : Hid (tgK k = false) := Lib.hid (by simp [tgK, h, h2])
  have e1 : (k == 1) = false := beq_false_of_ne h
  have e2 : (k == 2) = false := beq_false_of_ne h2
  rw [HB.out]
  go_enter Try.func22, Try.ntmps22
  go_wp2
  go_ret
  exact ⟨rfl, rfl⟩
theorem hasId_any (k : Int) (w : World) : Calls Try.prog 23 #[.int .i64 k] w fun e w' => e = .returned (.bool (idK k)) ∧ w = w' := by
  by_cases h : k = 5
  · subst h
    go_enter Try.func23, Try.ntmps23
    go_wp2
    go_ret
    exact ⟨rfl, rfl⟩
  by_cases h2 : k = 6
  · subst h2
    go_enter Try.func23, Try.ntmps23
    go_wp2
    go_ret
    exact ⟨rfl, rfl⟩
  have HB : Hid (idK k = false) := Lib.hid (by simp [idK, h, h2])
  have e1 : (k == 5) = false := beq_false_of_ne h
  have e2 : (k == 6) = false := beq_false_of_ne h2
  rw [HB.out]
  go_enter Try.func23, Try.ntmps23
  go_wp2
  go_ret
  exact ⟨rfl, rfl⟩
theorem hasValue_any (k : Int) (w : World) : Calls Try.prog 24 #[.int .i64 k] w fun e w' => e = .returned (.bool (vlK k)) ∧ w = w' := by
  by_cases h : k = 5
  · subst h
    go_enter Try.func24, Try.ntmps24
    go_wp2
    go_ret
    exact ⟨rfl, rfl⟩
  have HB : Hid (vlK k = true) := Lib.hid (by simp [vlK, h])
  have e1 : (k == 5) = false := beq_false_of_ne h
  have e2 : (k != 5) = true := by simp [h]
  rw [HB.out]
  go_enter Try.func24, Try.ntmps24
  go_wp2
  go_ret
  exact ⟨rfl, rfl⟩

/-- The tests of a stray field. -/
def sB (a : Bool) (g : ByteArray) : Prop := (a = true → g = ⟨#[]⟩) ∧ (a = false → 0 < g.size ∧ ¬ g.toList = [])
theorem sB_any (g : ByteArray) : ∃ a, sB a g := by
  by_cases h : g = ⟨#[]⟩
  · exact ⟨true, fun _ => h, fun e => (by cases e)⟩
  · have hp : 0 < g.size := Nat.pos_of_ne_zero fun e => h (size_zero (by omega))
    refine ⟨false, fun e => (by cases e), fun _ => ⟨hp, fun e => ?_⟩⟩
    rw [ByteArray.toList_eq] at e
    have h2 := congrArg List.length e
    have h3 : g.data.toList.length = g.size := by simp
    simp only [List.length_nil] at h2
    omega
def nB (a : Bool) (x : Int) : Prop := (a = true → x = 0) ∧ (a = false → (x == 0) = false ∧ (x != 0) = true ∧ x ≠ 0)
theorem nB_any (x : Int) : ∃ a, nB a x := by
  by_cases h : x = 0
  · exact ⟨true, fun _ => h, fun e => (by cases e)⟩
  · exact ⟨false, fun e => (by cases e), fun _ => ⟨beq_false_of_ne h, by simp [h], h⟩⟩

theorem strK_g (r : Rc) (h : tgK r.k = false) (hg : 0 < r.g.size) : strK r = true := by unfold strK; rw [h, decide_eq_true hg]; rfl
theorem strK_i (r : Rc) (h : idK r.k = false) (hi : r.i ≠ 0) : strK r = true := by unfold strK; rw [h, decide_eq_false hi]; simp
theorem strK_v (r : Rc) (h : vlK r.k = false) (hv : r.v ≠ 0) : strK r = true := by unfold strK; rw [h, decide_eq_false hv]; simp
theorem stray1_i (t : Int) (g : ByteArray) (v i : Int) (w : World) (h : (i == 0) = false) (h2 : (i != 0) = true) : Calls Try.prog 30 #[.agg #[.int .i64 1, .int .i64 t, .string g, .int .i64 v, .int .i64 i]] w fun e w' => e = .returned (.bool true) ∧ Below w.heap.size w w' := by
  have bel := bel_alloc w (.cells #[.int .i64 1, .int .i64 t, .string g, .int .i64 v, .int .i64 i] 23)
  obtain ⟨c0, c1, c2, c3, c4⟩ := (Bx.new w (.cells #[.int .i64 1, .int .i64 t, .string g, .int .i64 v, .int .i64 i] 23)).five
  go_enter Try.func30, Try.ntmps30
  go_wp2_with fail
  refine (hasTag_any 1 _).mono ?_
  rintro e w' ⟨rfl, rfl⟩
  rw [show tgK 1 = true from rfl]
  go_wp2_with fail
  refine (hasId_any 1 _).mono ?_
  rintro e w' ⟨rfl, rfl⟩
  rw [show idK 1 = false from rfl]
  go_wp2
  go_ret
  exact ⟨rfl, bel⟩
theorem stray1_o (t : Int) (g : ByteArray) (v : Int) (w : World) : Calls Try.prog 30 #[.agg #[.int .i64 1, .int .i64 t, .string g, .int .i64 v, .int .i64 0]] w fun e w' => e = .returned (.bool false) ∧ Below w.heap.size w w' := by
  have bel := bel_alloc w (.cells #[.int .i64 1, .int .i64 t, .string g, .int .i64 v, .int .i64 0] 23)
  obtain ⟨c0, c1, c2, c3, c4⟩ := (Bx.new w (.cells #[.int .i64 1, .int .i64 t, .string g, .int .i64 v, .int .i64 0] 23)).five
  go_enter Try.func30, Try.ntmps30
  go_wp2_with fail
  refine (hasTag_any 1 _).mono ?_
  rintro e w' ⟨rfl, rfl⟩
  rw [show tgK 1 = true from rfl]
  go_wp2_with fail
  refine (hasId_any 1 _).mono ?_
  rintro e w' ⟨rfl, rfl⟩
  rw [show idK 1 = false from rfl]
  go_wp2_with fail
  refine (hasValue_any 1 _).mono ?_
  rintro e w' ⟨rfl, rfl⟩
  rw [show vlK 1 = true from rfl]
  go_wp2
  go_ret
  exact ⟨rfl, bel⟩
theorem stray2_i (t : Int) (g : ByteArray) (v i : Int) (w : World) (h : (i == 0) = false) (h2 : (i != 0) = true) : Calls Try.prog 30 #[.agg #[.int .i64 2, .int .i64 t, .string g, .int .i64 v, .int .i64 i]] w fun e w' => e = .returned (.bool true) ∧ Below w.heap.size w w' := by
  have bel := bel_alloc w (.cells #[.int .i64 2, .int .i64 t, .string g, .int .i64 v, .int .i64 i] 23)
  obtain ⟨c0, c1, c2, c3, c4⟩ := (Bx.new w (.cells #[.int .i64 2, .int .i64 t, .string g, .int .i64 v, .int .i64 i] 23)).five
  go_enter Try.func30, Try.ntmps30
  go_wp2_with fail
  refine (hasTag_any 2 _).mono ?_
  rintro e w' ⟨rfl, rfl⟩
  rw [show tgK 2 = true from rfl]
  go_wp2_with fail
  refine (hasId_any 2 _).mono ?_
  rintro e w' ⟨rfl, rfl⟩
  rw [show idK 2 = false from rfl]
  go_wp2
  go_ret
  exact ⟨rfl, bel⟩
theorem stray2_o (t : Int) (g : ByteArray) (v : Int) (w : World) : Calls Try.prog 30 #[.agg #[.int .i64 2, .int .i64 t, .string g, .int .i64 v, .int .i64 0]] w fun e w' => e = .returned (.bool false) ∧ Below w.heap.size w w' := by
  have bel := bel_alloc w (.cells #[.int .i64 2, .int .i64 t, .string g, .int .i64 v, .int .i64 0] 23)
  obtain ⟨c0, c1, c2, c3, c4⟩ := (Bx.new w (.cells #[.int .i64 2, .int .i64 t, .string g, .int .i64 v, .int .i64 0] 23)).five
  go_enter Try.func30, Try.ntmps30
  go_wp2_with fail
  refine (hasTag_any 2 _).mono ?_
  rintro e w' ⟨rfl, rfl⟩
  rw [show tgK 2 = true from rfl]
  go_wp2_with fail
  refine (hasId_any 2 _).mono ?_
  rintro e w' ⟨rfl, rfl⟩
  rw [show idK 2 = false from rfl]
  go_wp2_with fail
  refine (hasValue_any 2 _).mono ?_
  rintro e w' ⟨rfl, rfl⟩
  rw [show vlK 2 = true from rfl]
  go_wp2
  go_ret
  exact ⟨rfl, bel⟩
theorem stray3_g (t : Int) (g : ByteArray) (v i : Int) (w : World) (hg3 : ¬ g.toList = []) : Calls Try.prog 30 #[.agg #[.int .i64 3, .int .i64 t, .string g, .int .i64 v, .int .i64 i]] w fun e w' => e = .returned (.bool true) ∧ Below w.heap.size w w' := by
  have bel := bel_alloc w (.cells #[.int .i64 3, .int .i64 t, .string g, .int .i64 v, .int .i64 i] 23)
  obtain ⟨c0, c1, c2, c3, c4⟩ := (Bx.new w (.cells #[.int .i64 3, .int .i64 t, .string g, .int .i64 v, .int .i64 i] 23)).five
  go_enter Try.func30, Try.ntmps30
  go_wp2_with fail
  refine (hasTag_any 3 _).mono ?_
  rintro e w' ⟨rfl, rfl⟩
  rw [show tgK 3 = false from rfl]
  go_wp2
  go_ret
  exact ⟨rfl, bel⟩
theorem stray3_i (t : Int) (v i : Int) (w : World) (h : (i == 0) = false) (h2 : (i != 0) = true) : Calls Try.prog 30 #[.agg #[.int .i64 3, .int .i64 t, .string ⟨#[]⟩, .int .i64 v, .int .i64 i]] w fun e w' => e = .returned (.bool true) ∧ Below w.heap.size w w' := by
  have bel := bel_alloc w (.cells #[.int .i64 3, .int .i64 t, .string ⟨#[]⟩, .int .i64 v, .int .i64 i] 23)
  obtain ⟨c0, c1, c2, c3, c4⟩ := (Bx.new w (.cells #[.int .i64 3, .int .i64 t, .string ⟨#[]⟩, .int .i64 v, .int .i64 i] 23)).five
  go_enter Try.func30, Try.ntmps30
  go_wp2_with fail
  refine (hasTag_any 3 _).mono ?_
  rintro e w' ⟨rfl, rfl⟩
  rw [show tgK 3 = false from rfl]
  go_wp2_with fail
  refine (hasId_any 3 _).mono ?_
  rintro e w' ⟨rfl, rfl⟩
  rw [show idK 3 = false from rfl]
  go_wp2
  go_ret
  exact ⟨rfl, bel⟩
theorem stray3_o (t : Int) (v : Int) (w : World) : Calls Try.prog 30 #[.agg #[.int .i64 3, .int .i64 t, .string ⟨#[]⟩, .int .i64 v, .int .i64 0]] w fun e w' => e = .returned (.bool false) ∧ Below w.heap.size w w' := by
  have bel := bel_alloc w (.cells #[.int .i64 3, .int .i64 t, .string ⟨#[]⟩, .int .i64 v, .int .i64 0] 23)
  obtain ⟨c0, c1, c2, c3, c4⟩ := (Bx.new w (.cells #[.int .i64 3, .int .i64 t, .string ⟨#[]⟩, .int .i64 v, .int .i64 0] 23)).five
  go_enter Try.func30, Try.ntmps30
  go_wp2_with fail
  refine (hasTag_any 3 _).mono ?_
  rintro e w' ⟨rfl, rfl⟩
  rw [show tgK 3 = false from rfl]
  go_wp2_with fail
  refine (hasId_any 3 _).mono ?_
  rintro e w' ⟨rfl, rfl⟩
  rw [show idK 3 = false from rfl]
  go_wp2_with fail
  refine (hasValue_any 3 _).mono ?_
  rintro e w' ⟨rfl, rfl⟩
  rw [show vlK 3 = true from rfl]
  go_wp2
  go_ret
  exact ⟨rfl, bel⟩
theorem stray4_g (t : Int) (g : ByteArray) (v i : Int) (w : World) (hg3 : ¬ g.toList = []) : Calls Try.prog 30 #[.agg #[.int .i64 4, .int .i64 t, .string g, .int .i64 v, .int .i64 i]] w fun e w' => e = .returned (.bool true) ∧ Below w.heap.size w w' := by
  have bel := bel_alloc w (.cells #[.int .i64 4, .int .i64 t, .string g, .int .i64 v, .int .i64 i] 23)
  obtain ⟨c0, c1, c2, c3, c4⟩ := (Bx.new w (.cells #[.int .i64 4, .int .i64 t, .string g, .int .i64 v, .int .i64 i] 23)).five
  go_enter Try.func30, Try.ntmps30
  go_wp2_with fail
  refine (hasTag_any 4 _).mono ?_
  rintro e w' ⟨rfl, rfl⟩
  rw [show tgK 4 = false from rfl]
  go_wp2
  go_ret
  exact ⟨rfl, bel⟩
theorem stray4_i (t : Int) (v i : Int) (w : World) (h : (i == 0) = false) (h2 : (i != 0) = true) : Calls Try.prog 30 #[.agg #[.int .i64 4, .int .i64 t, .string ⟨#[]⟩, .int .i64 v, .int .i64 i]] w fun e w' => e = .returned (.bool true) ∧ Below w.heap.size w w' := by
  have bel := bel_alloc w (.cells #[.int .i64 4, .int .i64 t, .string ⟨#[]⟩, .int .i64 v, .int .i64 i] 23)
  obtain ⟨c0, c1, c2, c3, c4⟩ := (Bx.new w (.cells #[.int .i64 4, .int .i64 t, .string ⟨#[]⟩, .int .i64 v, .int .i64 i] 23)).five
  go_enter Try.func30, Try.ntmps30
  go_wp2_with fail
  refine (hasTag_any 4 _).mono ?_
  rintro e w' ⟨rfl, rfl⟩
  rw [show tgK 4 = false from rfl]
  go_wp2_with fail
  refine (hasId_any 4 _).mono ?_
  rintro e w' ⟨rfl, rfl⟩
  rw [show idK 4 = false from rfl]
  go_wp2
  go_ret
  exact ⟨rfl, bel⟩
theorem stray4_o (t : Int) (v : Int) (w : World) : Calls Try.prog 30 #[.agg #[.int .i64 4, .int .i64 t, .string ⟨#[]⟩, .int .i64 v, .int .i64 0]] w fun e w' => e = .returned (.bool false) ∧ Below w.heap.size w w' := by
  have bel := bel_alloc w (.cells #[.int .i64 4, .int .i64 t, .string ⟨#[]⟩, .int .i64 v, .int .i64 0] 23)
  obtain ⟨c0, c1, c2, c3, c4⟩ := (Bx.new w (.cells #[.int .i64 4, .int .i64 t, .string ⟨#[]⟩, .int .i64 v, .int .i64 0] 23)).five
  go_enter Try.func30, Try.ntmps30
  go_wp2_with fail
  refine (hasTag_any 4 _).mono ?_
  rintro e w' ⟨rfl, rfl⟩
  rw [show tgK 4 = false from rfl]
  go_wp2_with fail
  refine (hasId_any 4 _).mono ?_
  rintro e w' ⟨rfl, rfl⟩
  rw [show idK 4 = false from rfl]
  go_wp2_with fail
  refine (hasValue_any 4 _).mono ?_
  rintro e w' ⟨rfl, rfl⟩
  rw [show vlK 4 = true from rfl]
  go_wp2
  go_ret
  exact ⟨rfl, bel⟩
theorem stray5_g (t : Int) (g : ByteArray) (v i : Int) (w : World) (hg3 : ¬ g.toList = []) : Calls Try.prog 30 #[.agg #[.int .i64 5, .int .i64 t, .string g, .int .i64 v, .int .i64 i]] w fun e w' => e = .returned (.bool true) ∧ Below w.heap.size w w' := by
  have bel := bel_alloc w (.cells #[.int .i64 5, .int .i64 t, .string g, .int .i64 v, .int .i64 i] 23)
  obtain ⟨c0, c1, c2, c3, c4⟩ := (Bx.new w (.cells #[.int .i64 5, .int .i64 t, .string g, .int .i64 v, .int .i64 i] 23)).five
  go_enter Try.func30, Try.ntmps30
  go_wp2_with fail
  refine (hasTag_any 5 _).mono ?_
  rintro e w' ⟨rfl, rfl⟩
  rw [show tgK 5 = false from rfl]
  go_wp2
  go_ret
  exact ⟨rfl, bel⟩
theorem stray5_v (t : Int) (v i : Int) (w : World) (h : (v == 0) = false) (h2 : (v != 0) = true) : Calls Try.prog 30 #[.agg #[.int .i64 5, .int .i64 t, .string ⟨#[]⟩, .int .i64 v, .int .i64 i]] w fun e w' => e = .returned (.bool true) ∧ Below w.heap.size w w' := by
  have bel := bel_alloc w (.cells #[.int .i64 5, .int .i64 t, .string ⟨#[]⟩, .int .i64 v, .int .i64 i] 23)
  obtain ⟨c0, c1, c2, c3, c4⟩ := (Bx.new w (.cells #[.int .i64 5, .int .i64 t, .string ⟨#[]⟩, .int .i64 v, .int .i64 i] 23)).five
  go_enter Try.func30, Try.ntmps30
  go_wp2_with fail
  refine (hasTag_any 5 _).mono ?_
  rintro e w' ⟨rfl, rfl⟩
  rw [show tgK 5 = false from rfl]
  go_wp2_with fail
  refine (hasId_any 5 _).mono ?_
  rintro e w' ⟨rfl, rfl⟩
  rw [show idK 5 = true from rfl]
  go_wp2_with fail
  refine (hasValue_any 5 _).mono ?_
  rintro e w' ⟨rfl, rfl⟩
  rw [show vlK 5 = false from rfl]
  go_wp2
  go_ret
  exact ⟨rfl, bel⟩
theorem stray5_o (t : Int) (i : Int) (w : World) : Calls Try.prog 30 #[.agg #[.int .i64 5, .int .i64 t, .string ⟨#[]⟩, .int .i64 0, .int .i64 i]] w fun e w' => e = .returned (.bool false) ∧ Below w.heap.size w w' := by
  have bel := bel_alloc w (.cells #[.int .i64 5, .int .i64 t, .string ⟨#[]⟩, .int .i64 0, .int .i64 i] 23)
  obtain ⟨c0, c1, c2, c3, c4⟩ := (Bx.new w (.cells #[.int .i64 5, .int .i64 t, .string ⟨#[]⟩, .int .i64 0, .int .i64 i] 23)).five
  go_enter Try.func30, Try.ntmps30
  go_wp2_with fail
  refine (hasTag_any 5 _).mono ?_
  rintro e w' ⟨rfl, rfl⟩
  rw [show tgK 5 = false from rfl]
  go_wp2_with fail
  refine (hasId_any 5 _).mono ?_
  rintro e w' ⟨rfl, rfl⟩
  rw [show idK 5 = true from rfl]
  go_wp2_with fail
  refine (hasValue_any 5 _).mono ?_
  rintro e w' ⟨rfl, rfl⟩
  rw [show vlK 5 = false from rfl]
  go_wp2
  go_ret
  exact ⟨rfl, bel⟩
theorem stray6_g (t : Int) (g : ByteArray) (v i : Int) (w : World) (hg3 : ¬ g.toList = []) : Calls Try.prog 30 #[.agg #[.int .i64 6, .int .i64 t, .string g, .int .i64 v, .int .i64 i]] w fun e w' => e = .returned (.bool true) ∧ Below w.heap.size w w' := by
  have bel := bel_alloc w (.cells #[.int .i64 6, .int .i64 t, .string g, .int .i64 v, .int .i64 i] 23)
  obtain ⟨c0, c1, c2, c3, c4⟩ := (Bx.new w (.cells #[.int .i64 6, .int .i64 t, .string g, .int .i64 v, .int .i64 i] 23)).five
  go_enter Try.func30, Try.ntmps30
  go_wp2_with fail
  refine (hasTag_any 6 _).mono ?_
  rintro e w' ⟨rfl, rfl⟩
  rw [show tgK 6 = false from rfl]
  go_wp2
  go_ret
  exact ⟨rfl, bel⟩
theorem stray6_o (t : Int) (v i : Int) (w : World) : Calls Try.prog 30 #[.agg #[.int .i64 6, .int .i64 t, .string ⟨#[]⟩, .int .i64 v, .int .i64 i]] w fun e w' => e = .returned (.bool false) ∧ Below w.heap.size w w' := by
  have bel := bel_alloc w (.cells #[.int .i64 6, .int .i64 t, .string ⟨#[]⟩, .int .i64 v, .int .i64 i] 23)
  obtain ⟨c0, c1, c2, c3, c4⟩ := (Bx.new w (.cells #[.int .i64 6, .int .i64 t, .string ⟨#[]⟩, .int .i64 v, .int .i64 i] 23)).five
  go_enter Try.func30, Try.ntmps30
  go_wp2_with fail
  refine (hasTag_any 6 _).mono ?_
  rintro e w' ⟨rfl, rfl⟩
  rw [show tgK 6 = false from rfl]
  go_wp2_with fail
  refine (hasId_any 6 _).mono ?_
  rintro e w' ⟨rfl, rfl⟩
  rw [show idK 6 = true from rfl]
  go_wp2_with fail
  refine (hasValue_any 6 _).mono ?_
  rintro e w' ⟨rfl, rfl⟩
  rw [show vlK 6 = true from rfl]
  go_wp2
  go_ret
  exact ⟨rfl, bel⟩
theorem hasStray_any (k t : Int) (g : ByteArray) (v i : Int) (w : World) (hk : betw k 1 6 = true) : Calls Try.prog 30 #[.agg #[.int .i64 k, .int .i64 t, .string g, .int .i64 v, .int .i64 i]] w fun e w' => e = .returned (.bool (strK ⟨k, t, g, v, i⟩)) ∧ Below w.heap.size w w' := by
  obtain ⟨a, ha, ha2⟩ := sB_any g
  obtain ⟨b, hb, hb2⟩ := nB_any v
  obtain ⟨c, hc, hc2⟩ := nB_any i
  rcases kinds hk with rfl | rfl | rfl | rfl | rfl | rfl
  · cases c
    · rw [strK_i _ rfl (hc2 rfl).2.2]; exact stray1_i t g v i w (hc2 rfl).1 (hc2 rfl).2.1
    obtain rfl := hc rfl
    exact stray1_o t g v w
  · cases c
    · rw [strK_i _ rfl (hc2 rfl).2.2]; exact stray2_i t g v i w (hc2 rfl).1 (hc2 rfl).2.1
    obtain rfl := hc rfl
    exact stray2_o t g v w
  · cases a
    · rw [strK_g _ rfl (ha2 rfl).1]; exact stray3_g t g v i w (ha2 rfl).2
    obtain rfl := ha rfl
    cases c
    · rw [strK_i _ rfl (hc2 rfl).2.2]; exact stray3_i t v i w (hc2 rfl).1 (hc2 rfl).2.1
    obtain rfl := hc rfl
    exact stray3_o t v w
  · cases a
    · rw [strK_g _ rfl (ha2 rfl).1]; exact stray4_g t g v i w (ha2 rfl).2
    obtain rfl := ha rfl
    cases c
    · rw [strK_i _ rfl (hc2 rfl).2.2]; exact stray4_i t v i w (hc2 rfl).1 (hc2 rfl).2.1
    obtain rfl := hc rfl
    exact stray4_o t v w
  · cases a
    · rw [strK_g _ rfl (ha2 rfl).1]; exact stray5_g t g v i w (ha2 rfl).2
    obtain rfl := ha rfl
    cases b
    · rw [strK_v _ rfl (hb2 rfl).2.2]; exact stray5_v t v i w (hb2 rfl).1 (hb2 rfl).2.1
    obtain rfl := hb rfl
    exact stray5_o t i w
  · cases a
    · rw [strK_g _ rfl (ha2 rfl).1]; exact stray6_g t g v i w (ha2 rfl).2
    obtain rfl := ha rfl
    exact stray6_o t v i w
end Go.Proofs.Ytemjcgmoacnnfaa
