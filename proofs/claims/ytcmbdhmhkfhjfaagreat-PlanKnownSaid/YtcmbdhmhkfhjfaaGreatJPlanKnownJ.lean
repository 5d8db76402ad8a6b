/-
  Texts of the proof of PlanKnown, joined.
-/
import Derived.Test.YtcmbdhmhkfhjfaaGreatJPlanKnownI
namespace Go.Proofs.YtcmbdhmhkfhjfaaGreat
open Go.RowKit
set_option linter.unusedVariables false
set_option maxRecDepth 100000
attribute [local go_sem ↓] ldTag_fold stTag_fold bxTag_fold
attribute [local go_sem] bxTag_run

set_option maxHeartbeats 4000000 in
theorem joins_any (pu pk pa pc pe : Int) (Pt : Option Addr) (pn pm : Nat) (tg : List Int) (t : Tg) (w : World) (hpa : 0 ≤ pa ∧ pa ≤ 65536) (hpc : 0 ≤ pc ∧ pc ≤ 65536) (hta : 0 ≤ t.ad ∧ t.ad ≤ 65536) :
    Calls Tryz.prog 48 #[tgV t, .agg #[.int .i64 pu, .int .i64 pk, .int .i64 pa, .int .i64 pc, .int .i64 pe, .slice Pt pn pm]] w fun e w' => e = .returned (.bool (joinB ⟨pu, pk, pa, pc, pe, tg⟩ t)) ∧ Below w.heap.size w w' := by
  have hx0 := two_fst w (.cells (tgC t).toArray 51) (.cells #[.int .i64 pu, .int .i64 pk, .int .i64 pa, .int .i64 pc, .int .i64 pe, .slice Pt pn pm] 25)
  have hx1 := heap_alloc_two w (.cells (tgC t).toArray 51) (.cells #[.int .i64 pu, .int .i64 pk, .int .i64 pa, .int .i64 pc, .int .i64 pe, .slice Pt pn pm] 25)
  have bel0 := Lib.hid ((bel_alloc w (.cells (tgC t).toArray 51)).alloc (by simp) (.cells #[.int .i64 pu, .int .i64 pk, .int .i64 pa, .int .i64 pc, .int .i64 pe, .slice Pt pn pm] 25))
  have HI : Hid (∀ W : World, Calls Tryz.prog 51 #[tgV t, .agg #[.int .i64 pu, .int .i64 pk, .int .i64 pa, .int .i64 pc, .int .i64 pe, .slice Pt pn pm]] W fun e w' => e = .returned (.bool (bankB t pu pk)) ∧ Below W.heap.size W w') := Lib.hid fun W => inBank_any pu pk pa pc pe Pt pn pm t W
  have HC : Hid (∀ W : World, Calls Tryz.prog 49 #[tgV t, .agg #[.int .i64 pu, .int .i64 pk, .int .i64 pa, .int .i64 pc, .int .i64 pe, .slice Pt pn pm]] W fun e w' => e = .returned (.int .i64 (cntJ ⟨pu, pk, pa, pc, pe, tg⟩ t)) ∧ Below W.heap.size W w') := Lib.hid fun W => count10_any pu pk pa pc pe Pt pn pm tg t W hpa hpc hta
  have HM : Hid (∀ W : World, Calls Tryz.prog 75 #[.int .i64 pk] W fun e w' => e = .returned (.int .i64 (mostK pk)) ∧ w' = W) := Lib.hid fun W => most_any pk W
  have HK0 : Hid (∀ w9 : World, Below ((w.alloc (.cells (tgC t).toArray 51)).alloc (.cells #[.int .i64 pu, .int .i64 pk, .int .i64 pa, .int .i64 pc, .int .i64 pe, .slice Pt pn pm] 25)).heap.size ((w.alloc (.cells (tgC t).toArray 51)).alloc (.cells #[.int .i64 pu, .int .i64 pk, .int .i64 pa, .int .i64 pc, .int .i64 pe, .slice Pt pn pm] 25)) w9 → (Below ((w.alloc (.cells (tgC t).toArray 51)).alloc (.cells #[.int .i64 pu, .int .i64 pk, .int .i64 pa, .int .i64 pc, .int .i64 pe, .slice Pt pn pm] 25)).heap.size ((w.alloc (.cells (tgC t).toArray 51)).alloc (.cells #[.int .i64 pu, .int .i64 pk, .int .i64 pa, .int .i64 pc, .int .i64 pe, .slice Pt pn pm] 25)) w9 ∧ (w9.cell? ⟨w.heap.size, 3, none⟩ = some (.int .i64 t.ad) ∧ w9.cell? ⟨w.heap.size, 4, none⟩ = some (.int .i64 t.ev)) ∧ (ldTag (.pointer (some ⟨w.heap.size, 0, none⟩))).run Tryz.prog w9 = .ok (tgV t) w9 ∧ (w9.cell? ⟨w.heap.size + 1, 0, none⟩ = some (.int .i64 pu) ∧ w9.cell? ⟨w.heap.size + 1, 1, none⟩ = some (.int .i64 pk) ∧ w9.cell? ⟨w.heap.size + 1, 2, none⟩ = some (.int .i64 pa) ∧ w9.cell? ⟨w.heap.size + 1, 3, none⟩ = some (.int .i64 pc) ∧ w9.cell? ⟨w.heap.size + 1, 4, none⟩ = some (.int .i64 pe) ∧ w9.cell? ⟨w.heap.size + 1, 5, none⟩ = some (.slice Pt pn pm)))) := Lib.hid fun w9 hw => ⟨hw, (tgBox (keepB hw hx0)).2.2.2, tgBox_ld (keepB hw hx0), of6 (keepB hw hx1)⟩
  by_cases h1 : t.un = pu ∧ t.ki = pk
  case neg =>
    have HB : Hid (joinB ⟨pu, pk, pa, pc, pe, tg⟩ t = false) := Lib.hid (joinB_no (fun h => h1 ⟨h.1.symm, h.2.2.1.symm⟩))
    rw [bankB_no h1] at HI
    clear h1
    go_enter Tryz.func48, Tryz.ntmps48
    go_wp2
    have HK := HK0
    clear HK0
    generalize ((w.alloc (.cells (tgC t).toArray 51)).alloc (.cells #[.int .i64 pu, .int .i64 pk, .int .i64 pa, .int .i64 pc, .int .i64 pe, .slice Pt pn pm] 25)) = w0 at *
    refine wp_region_held_drew (S := (fun w9 => Below w0.heap.size w0 w9 ∧ (w9.cell? ⟨w.heap.size, 3, none⟩ = some (.int .i64 t.ad) ∧ w9.cell? ⟨w.heap.size, 4, none⟩ = some (.int .i64 t.ev)) ∧ (ldTag (.pointer (some ⟨w.heap.size, 0, none⟩))).run Tryz.prog w9 = .ok (tgV t) w9 ∧ (w9.cell? ⟨w.heap.size + 1, 0, none⟩ = some (.int .i64 pu) ∧ w9.cell? ⟨w.heap.size + 1, 1, none⟩ = some (.int .i64 pk) ∧ w9.cell? ⟨w.heap.size + 1, 2, none⟩ = some (.int .i64 pa) ∧ w9.cell? ⟨w.heap.size + 1, 3, none⟩ = some (.int .i64 pc) ∧ w9.cell? ⟨w.heap.size + 1, 4, none⟩ = some (.int .i64 pe) ∧ w9.cell? ⟨w.heap.size + 1, 5, none⟩ = some (.slice Pt pn pm)))) (by kernel_rfl) (HK.out _ (below_drew (Below.refl _ _))) (fun hHeld => ?_)
    refine wpAnyH_take (i := 0) (oi := { dst := some 5, op := Op.load 51 (Operand.tmp 2), type := 51, pos := "plan.go:78", after := #[], guard := none }) (v := ?v1) rfl (by kernel_rfl) (by kernel_rfl) (by kernel_rfl) (fun _ _ _ h => h) (Or.inl ⟨by rfl, ?hy1⟩) (by assumption) ?rest1
    case hy1 => (intro w' hSw; (try dsimp only at hSw); go_simp; try with_reducible rfl)
    simp only [Act.put, List.setIfInBounds_toArray, List.set_cons_zero, List.set_cons_succ]
    refine wpAnyH_take (i := 1) (oi := { dst := some 6, op := Op.load 25 (Operand.tmp 3), type := 25, pos := "plan.go:78", after := #[], guard := none }) (v := ?v2) rfl (by kernel_rfl) (by kernel_rfl) (by kernel_rfl) (fun _ _ _ h => h) (Or.inl ⟨by rfl, ?hy2⟩) (by assumption) ?rest2
    case hy2 => (intro w' hSw; (try dsimp only at hSw); go_simp; try with_reducible rfl)
    simp only [Act.put, List.setIfInBounds_toArray, List.set_cons_zero, List.set_cons_succ]
    refine wpAnyH_ready (rs := [2]) (by kernel_rfl) (by simp) ?_
    refine AllReadyH.cons (o := { dst := some 7, op := Op.call { callee := Callee.value (Operand.func 51), args := #[Operand.tmp 5, Operand.tmp 6], argTypes := #[51, 25] }, type := 4, pos := "plan.go:78", after := #[{ on := 0, ground := Ground.data }, { on := 1, ground := Ground.data }], guard := none }) rfl (fun K hK => ?_) AllReadyH.nil
    go_simp
    go_at_call 51
    refine (HI.out _).mono ?_
    rintro e w5 ⟨rfl, b5⟩
    have bel5 : Below w0.heap.size w0 w5 := Below.trans (below_drew (Below.refl _ _)) (b5.mono (by simp))
    refine hK.out _ _ (HK.out _ bel5) (fun hHeld => ?_)
    clear hK K
    (try simp only [Act.put, List.setIfInBounds_toArray, List.set_cons_zero, List.set_cons_succ])
    refine wpAnyH_take (i := 3) (oi := { dst := some 8, op := Op.move (Operand.tmp 7), type := 4, pos := "plan.go:78", after := #[{ on := 2, ground := Ground.data }, { on := 2, ground := Ground.chain }], guard := none }) (v := ?v3) rfl (by kernel_rfl) (by kernel_rfl) (by kernel_rfl) (fun _ _ _ h => h) (Or.inl ⟨by rfl, ?hy3⟩) (by assumption) ?rest3
    case hy3 => (intro w' hSw; (try dsimp only at hSw); go_simp; try with_reducible rfl)
    simp only [Act.put, List.setIfInBounds_toArray, List.set_cons_zero, List.set_cons_succ]
    refine wpAnyH_take (i := 4) (oi := { dst := some 9, op := Op.fieldAddr 51 (Operand.tmp 2) 4, type := 0, pos := "plan.go:78", after := #[{ on := 3, ground := Ground.guard }], guard := some (3, true) }) (v := undef) rfl (by kernel_rfl) (by kernel_rfl) (by kernel_rfl) (fun _ _ _ h => h) (Or.inr ⟨by rfl, rfl⟩) (by assumption) ?_
    simp only [Act.put, List.setIfInBounds_toArray, List.set_cons_zero, List.set_cons_succ]
    refine wpAnyH_take (i := 5) (oi := { dst := some 10, op := Op.load 3 (Operand.tmp 9), type := 3, pos := "plan.go:78", after := #[{ on := 4, ground := Ground.data }, { on := 3, ground := Ground.guard }], guard := some (3, true) }) (v := undef) rfl (by kernel_rfl) (by kernel_rfl) (by kernel_rfl) (fun _ _ _ h => h) (Or.inr ⟨by rfl, rfl⟩) (by assumption) ?_
    simp only [Act.put, List.setIfInBounds_toArray, List.set_cons_zero, List.set_cons_succ]
    refine wpAnyH_take (i := 6) (oi := { dst := some 11, op := Op.fieldAddr 25 (Operand.tmp 3) 4, type := 0, pos := "plan.go:78", after := #[{ on := 3, ground := Ground.guard }], guard := some (3, true) }) (v := undef) rfl (by kernel_rfl) (by kernel_rfl) (by kernel_rfl) (fun _ _ _ h => h) (Or.inr ⟨by rfl, rfl⟩) (by assumption) ?_
    simp only [Act.put, List.setIfInBounds_toArray, List.set_cons_zero, List.set_cons_succ]
    refine wpAnyH_take (i := 7) (oi := { dst := some 12, op := Op.load 3 (Operand.tmp 11), type := 3, pos := "plan.go:78", after := #[{ on := 6, ground := Ground.data }, { on := 3, ground := Ground.guard }], guard := some (3, true) }) (v := undef) rfl (by kernel_rfl) (by kernel_rfl) (by kernel_rfl) (fun _ _ _ h => h) (Or.inr ⟨by rfl, rfl⟩) (by assumption) ?_
    simp only [Act.put, List.setIfInBounds_toArray, List.set_cons_zero, List.set_cons_succ]
    refine wpAnyH_take (i := 8) (oi := { dst := some 13, op := Op.binOp BinOp.eql 3 (Operand.tmp 10) (Operand.tmp 12) 3, type := 4, pos := "plan.go:78", after := #[{ on := 5, ground := Ground.data }, { on := 7, ground := Ground.data }, { on := 3, ground := Ground.guard }], guard := some (3, true) }) (v := undef) rfl (by kernel_rfl) (by kernel_rfl) (by kernel_rfl) (fun _ _ _ h => h) (Or.inr ⟨by rfl, rfl⟩) (by assumption) ?_
    simp only [Act.put, List.setIfInBounds_toArray, List.set_cons_zero, List.set_cons_succ]
    refine wpAnyH_take (i := 9) (oi := { dst := some 14, op := Op.pick (Operand.tmp 8) (Operand.tmp 13) (Operand.const (Value.bool false)), type := 4, pos := "plan.go:78", after := #[{ on := 3, ground := Ground.data }, { on := 8, ground := Ground.data }], guard := none }) (v := ?v9) rfl (by kernel_rfl) (by kernel_rfl) (by kernel_rfl) (fun _ _ _ h => h) (Or.inl ⟨by rfl, ?hy9⟩) (by assumption) ?rest9
    case hy9 => (intro w' hSw; (try dsimp only at hSw); go_simp; try with_reducible rfl)
    simp only [Act.put, List.setIfInBounds_toArray, List.set_cons_zero, List.set_cons_succ]
    refine wpAnyH_take (i := 10) (oi := { dst := some 15, op := Op.move (Operand.tmp 14), type := 4, pos := "plan.go:78", after := #[{ on := 9, ground := Ground.data }, { on := 3, ground := Ground.chain }], guard := none }) (v := ?v10) rfl (by kernel_rfl) (by kernel_rfl) (by kernel_rfl) (fun _ _ _ h => h) (Or.inl ⟨by rfl, ?hy10⟩) (by assumption) ?rest10
    case hy10 => (intro w' hSw; (try dsimp only at hSw); go_simp; try with_reducible rfl)
    simp only [Act.put, List.setIfInBounds_toArray, List.set_cons_zero, List.set_cons_succ]
    refine wpAnyH_take (i := 11) (oi := { dst := some 16, op := Op.fieldAddr 51 (Operand.tmp 2) 3, type := 0, pos := "plan.go:78", after := #[{ on := 10, ground := Ground.guard }], guard := some (10, true) }) (v := undef) rfl (by kernel_rfl) (by kernel_rfl) (by kernel_rfl) (fun _ _ _ h => h) (Or.inr ⟨by rfl, rfl⟩) (by assumption) ?_
    simp only [Act.put, List.setIfInBounds_toArray, List.set_cons_zero, List.set_cons_succ]
    refine wpAnyH_take (i := 12) (oi := { dst := some 17, op := Op.load 3 (Operand.tmp 16), type := 3, pos := "plan.go:78", after := #[{ on := 11, ground := Ground.data }, { on := 10, ground := Ground.guard }], guard := some (10, true) }) (v := undef) rfl (by kernel_rfl) (by kernel_rfl) (by kernel_rfl) (fun _ _ _ h => h) (Or.inr ⟨by rfl, rfl⟩) (by assumption) ?_
    simp only [Act.put, List.setIfInBounds_toArray, List.set_cons_zero, List.set_cons_succ]
    refine wpAnyH_take (i := 13) (oi := { dst := some 18, op := Op.fieldAddr 25 (Operand.tmp 3) 2, type := 0, pos := "plan.go:78", after := #[{ on := 10, ground := Ground.guard }], guard := some (10, true) }) (v := undef) rfl (by kernel_rfl) (by kernel_rfl) (by kernel_rfl) (fun _ _ _ h => h) (Or.inr ⟨by rfl, rfl⟩) (by assumption) ?_
    simp only [Act.put, List.setIfInBounds_toArray, List.set_cons_zero, List.set_cons_succ]
    refine wpAnyH_take (i := 14) (oi := { dst := some 19, op := Op.load 3 (Operand.tmp 18), type := 3, pos := "plan.go:78", after := #[{ on := 13, ground := Ground.data }, { on := 10, ground := Ground.guard }], guard := some (10, true) }) (v := undef) rfl (by kernel_rfl) (by kernel_rfl) (by kernel_rfl) (fun _ _ _ h => h) (Or.inr ⟨by rfl, rfl⟩) (by assumption) ?_
    simp only [Act.put, List.setIfInBounds_toArray, List.set_cons_zero, List.set_cons_succ]
    refine wpAnyH_take (i := 15) (oi := { dst := some 20, op := Op.fieldAddr 25 (Operand.tmp 3) 3, type := 0, pos := "plan.go:78", after := #[{ on := 10, ground := Ground.guard }], guard := some (10, true) }) (v := undef) rfl (by kernel_rfl) (by kernel_rfl) (by kernel_rfl) (fun _ _ _ h => h) (Or.inr ⟨by rfl, rfl⟩) (by assumption) ?_
    simp only [Act.put, List.setIfInBounds_toArray, List.set_cons_zero, List.set_cons_succ]
    refine wpAnyH_take (i := 16) (oi := { dst := some 21, op := Op.load 3 (Operand.tmp 20), type := 3, pos := "plan.go:78", after := #[{ on := 15, ground := Ground.data }, { on := 10, ground := Ground.guard }], guard := some (10, true) }) (v := undef) rfl (by kernel_rfl) (by kernel_rfl) (by kernel_rfl) (fun _ _ _ h => h) (Or.inr ⟨by rfl, rfl⟩) (by assumption) ?_
    simp only [Act.put, List.setIfInBounds_toArray, List.set_cons_zero, List.set_cons_succ]
    refine wpAnyH_take (i := 17) (oi := { dst := some 22, op := Op.binOp BinOp.add 3 (Operand.tmp 19) (Operand.tmp 21) 3, type := 3, pos := "plan.go:78", after := #[{ on := 14, ground := Ground.data }, { on := 16, ground := Ground.data }, { on := 10, ground := Ground.guard }], guard := some (10, true) }) (v := undef) rfl (by kernel_rfl) (by kernel_rfl) (by kernel_rfl) (fun _ _ _ h => h) (Or.inr ⟨by rfl, rfl⟩) (by assumption) ?_
    simp only [Act.put, List.setIfInBounds_toArray, List.set_cons_zero, List.set_cons_succ]
    refine wpAnyH_take (i := 18) (oi := { dst := some 23, op := Op.binOp BinOp.sub 3 (Operand.tmp 17) (Operand.tmp 22) 3, type := 3, pos := "plan.go:78", after := #[{ on := 12, ground := Ground.data }, { on := 17, ground := Ground.data }, { on := 10, ground := Ground.guard }], guard := some (10, true) }) (v := undef) rfl (by kernel_rfl) (by kernel_rfl) (by kernel_rfl) (fun _ _ _ h => h) (Or.inr ⟨by rfl, rfl⟩) (by assumption) ?_
    simp only [Act.put, List.setIfInBounds_toArray, List.set_cons_zero, List.set_cons_succ]
    refine wpAnyH_take (i := 19) (oi := { dst := some 24, op := Op.binOp BinOp.leq 3 (Operand.tmp 23) (Operand.const (Value.int IntKind.i64 8)) 3, type := 4, pos := "plan.go:78", after := #[{ on := 18, ground := Ground.data }, { on := 10, ground := Ground.guard }], guard := some (10, true) }) (v := undef) rfl (by kernel_rfl) (by kernel_rfl) (by kernel_rfl) (fun _ _ _ h => h) (Or.inr ⟨by rfl, rfl⟩) (by assumption) ?_
    simp only [Act.put, List.setIfInBounds_toArray, List.set_cons_zero, List.set_cons_succ]
    refine wpAnyH_take (i := 20) (oi := { dst := some 25, op := Op.pick (Operand.tmp 15) (Operand.tmp 24) (Operand.const (Value.bool false)), type := 4, pos := "plan.go:78", after := #[{ on := 10, ground := Ground.data }, { on := 19, ground := Ground.data }], guard := none }) (v := ?v20) rfl (by kernel_rfl) (by kernel_rfl) (by kernel_rfl) (fun _ _ _ h => h) (Or.inl ⟨by rfl, ?hy20⟩) (by assumption) ?rest20
    case hy20 => (intro w' hSw; (try dsimp only at hSw); go_simp; try with_reducible rfl)
    simp only [Act.put, List.setIfInBounds_toArray, List.set_cons_zero, List.set_cons_succ]
    refine wpAnyH_take (i := 21) (oi := { dst := some 26, op := Op.move (Operand.tmp 25), type := 4, pos := "plan.go:78", after := #[{ on := 20, ground := Ground.data }, { on := 10, ground := Ground.chain }], guard := none }) (v := ?v21) rfl (by kernel_rfl) (by kernel_rfl) (by kernel_rfl) (fun _ _ _ h => h) (Or.inl ⟨by rfl, ?hy21⟩) (by assumption) ?rest21
    case hy21 => (intro w' hSw; (try dsimp only at hSw); go_simp; try with_reducible rfl)
    simp only [Act.put, List.setIfInBounds_toArray, List.set_cons_zero, List.set_cons_succ]
    refine wpAnyH_take (i := 22) (oi := { dst := some 27, op := Op.load 51 (Operand.tmp 2), type := 51, pos := "plan.go:78", after := #[{ on := 21, ground := Ground.guard }], guard := some (21, true) }) (v := undef) rfl (by kernel_rfl) (by kernel_rfl) (by kernel_rfl) (fun _ _ _ h => h) (Or.inr ⟨by rfl, rfl⟩) (by assumption) ?_
    simp only [Act.put, List.setIfInBounds_toArray, List.set_cons_zero, List.set_cons_succ]
    refine wpAnyH_take (i := 23) (oi := { dst := some 28, op := Op.load 25 (Operand.tmp 3), type := 25, pos := "plan.go:78", after := #[{ on := 21, ground := Ground.guard }], guard := some (21, true) }) (v := undef) rfl (by kernel_rfl) (by kernel_rfl) (by kernel_rfl) (fun _ _ _ h => h) (Or.inr ⟨by rfl, rfl⟩) (by assumption) ?_
    simp only [Act.put, List.setIfInBounds_toArray, List.set_cons_zero, List.set_cons_succ]
    refine wpAnyH_take (i := 24) (oi := { dst := some 29, op := Op.call { callee := Callee.value (Operand.func 49), args := #[Operand.tmp 27, Operand.tmp 28], argTypes := #[51, 25] }, type := 3, pos := "plan.go:78", after := #[{ on := 22, ground := Ground.data }, { on := 23, ground := Ground.data }, { on := 21, ground := Ground.chain }, { on := 21, ground := Ground.guard }], guard := some (21, true) }) (v := undef) rfl (by kernel_rfl) (by kernel_rfl) (by kernel_rfl) (fun _ _ _ h => h) (Or.inr ⟨by rfl, rfl⟩) (by assumption) ?_
    simp only [Act.put, List.setIfInBounds_toArray, List.set_cons_zero, List.set_cons_succ]
    refine wpAnyH_take (i := 25) (oi := { dst := some 30, op := Op.fieldAddr 25 (Operand.tmp 3) 1, type := 0, pos := "plan.go:78", after := #[{ on := 21, ground := Ground.guard }], guard := some (21, true) }) (v := undef) rfl (by kernel_rfl) (by kernel_rfl) (by kernel_rfl) (fun _ _ _ h => h) (Or.inr ⟨by rfl, rfl⟩) (by assumption) ?_
    simp only [Act.put, List.setIfInBounds_toArray, List.set_cons_zero, List.set_cons_succ]
    refine wpAnyH_take (i := 26) (oi := { dst := some 31, op := Op.load 3 (Operand.tmp 30), type := 3, pos := "plan.go:78", after := #[{ on := 25, ground := Ground.data }, { on := 21, ground := Ground.guard }], guard := some (21, true) }) (v := undef) rfl (by kernel_rfl) (by kernel_rfl) (by kernel_rfl) (fun _ _ _ h => h) (Or.inr ⟨by rfl, rfl⟩) (by assumption) ?_
    simp only [Act.put, List.setIfInBounds_toArray, List.set_cons_zero, List.set_cons_succ]
    refine wpAnyH_take (i := 27) (oi := { dst := some 32, op := Op.call { callee := Callee.value (Operand.func 75), args := #[Operand.tmp 31], argTypes := #[3] }, type := 3, pos := "plan.go:78", after := #[{ on := 26, ground := Ground.data }, { on := 24, ground := Ground.chain }, { on := 21, ground := Ground.guard }], guard := some (21, true) }) (v := undef) rfl (by kernel_rfl) (by kernel_rfl) (by kernel_rfl) (fun _ _ _ h => h) (Or.inr ⟨by rfl, rfl⟩) (by assumption) ?_
    simp only [Act.put, List.setIfInBounds_toArray, List.set_cons_zero, List.set_cons_succ]
    refine wpAnyH_take (i := 28) (oi := { dst := some 33, op := Op.binOp BinOp.leq 3 (Operand.tmp 29) (Operand.tmp 32) 3, type := 4, pos := "plan.go:78", after := #[{ on := 24, ground := Ground.data }, { on := 27, ground := Ground.data }, { on := 21, ground := Ground.guard }], guard := some (21, true) }) (v := undef) rfl (by kernel_rfl) (by kernel_rfl) (by kernel_rfl) (fun _ _ _ h => h) (Or.inr ⟨by rfl, rfl⟩) (by assumption) ?_
    simp only [Act.put, List.setIfInBounds_toArray, List.set_cons_zero, List.set_cons_succ]
    refine wpAnyH_take (i := 29) (oi := { dst := some 34, op := Op.pick (Operand.tmp 26) (Operand.tmp 33) (Operand.const (Value.bool false)), type := 4, pos := "plan.go:78", after := #[{ on := 21, ground := Ground.data }, { on := 28, ground := Ground.data }], guard := none }) (v := ?v29) rfl (by kernel_rfl) (by kernel_rfl) (by kernel_rfl) (fun _ _ _ h => h) (Or.inl ⟨by rfl, ?hy29⟩) (by assumption) ?rest29
    case hy29 => (intro w' hSw; (try dsimp only at hSw); go_simp; try with_reducible rfl)
    simp only [Act.put, List.setIfInBounds_toArray, List.set_cons_zero, List.set_cons_succ]
    refine wpAnyH_take (i := 30) (oi := { dst := some 4, op := Op.assign (Operand.tmp 34), type := 4, pos := "plan.go:78", after := #[{ on := 29, ground := Ground.data }, { on := 27, ground := Ground.chain }, { on := 0, ground := Ground.phase }, { on := 1, ground := Ground.phase }, { on := 2, ground := Ground.phase }, { on := 3, ground := Ground.phase }, { on := 4, ground := Ground.phase }, { on := 5, ground := Ground.phase }, { on := 6, ground := Ground.phase }, { on := 7, ground := Ground.phase }, { on := 8, ground := Ground.phase }, { on := 9, ground := Ground.phase }, { on := 10, ground := Ground.phase }, { on := 11, ground := Ground.phase }, { on := 12, ground := Ground.phase }, { on := 13, ground := Ground.phase }, { on := 14, ground := Ground.phase }, { on := 15, ground := Ground.phase }, { on := 16, ground := Ground.phase }, { on := 17, ground := Ground.phase }, { on := 18, ground := Ground.phase }, { on := 19, ground := Ground.phase }, { on := 20, ground := Ground.phase }, { on := 21, ground := Ground.phase }, { on := 22, ground := Ground.phase }, { on := 23, ground := Ground.phase }, { on := 24, ground := Ground.phase }, { on := 25, ground := Ground.phase }, { on := 26, ground := Ground.phase }, { on := 27, ground := Ground.phase }, { on := 28, ground := Ground.phase }, { on := 29, ground := Ground.phase }], guard := none }) (v := ?v30) rfl (by kernel_rfl) (by kernel_rfl) (by kernel_rfl) (fun _ _ _ h => h) (Or.inl ⟨by rfl, ?hy30⟩) (by assumption) ?rest30
    case hy30 => (intro w' hSw; (try dsimp only at hSw); go_simp; try with_reducible rfl)
    simp only [Act.put, List.setIfInBounds_toArray, List.set_cons_zero, List.set_cons_succ]
    refine wpAnyH_done (by kernel_rfl) ?_ _
    have BEL := Lib.hid (bel0.out.trans (bel5.mono bel0.out.size))
    clear HK bel5 hx0 hx1 bel0 HI HC HM
    go_wp2
    go_ret
    exact ⟨by rw [HB.out]; try rfl, BEL.out⟩
  rw [bankB_yes h1.1 h1.2] at HI
  by_cases h2 : t.ev = pe
  case neg =>
    have HB : Hid (joinB ⟨pu, pk, pa, pc, pe, tg⟩ t = false) := Lib.hid (joinB_no (fun h => h2 h.2.1.symm))
    have f1 : (t.ev == pe) = false := beq_false_of_ne h2
    have f2 : decide (t.ev = pe) = false := decide_eq_false h2
    clear h1 h2
    go_enter Tryz.func48, Tryz.ntmps48
    go_wp2
    have HK := HK0
    clear HK0
    generalize ((w.alloc (.cells (tgC t).toArray 51)).alloc (.cells #[.int .i64 pu, .int .i64 pk, .int .i64 pa, .int .i64 pc, .int .i64 pe, .slice Pt pn pm] 25)) = w0 at *
    refine wp_region_held_drew (S := (fun w9 => Below w0.heap.size w0 w9 ∧ (w9.cell? ⟨w.heap.size, 3, none⟩ = some (.int .i64 t.ad) ∧ w9.cell? ⟨w.heap.size, 4, none⟩ = some (.int .i64 t.ev)) ∧ (ldTag (.pointer (some ⟨w.heap.size, 0, none⟩))).run Tryz.prog w9 = .ok (tgV t) w9 ∧ (w9.cell? ⟨w.heap.size + 1, 0, none⟩ = some (.int .i64 pu) ∧ w9.cell? ⟨w.heap.size + 1, 1, none⟩ = some (.int .i64 pk) ∧ w9.cell? ⟨w.heap.size + 1, 2, none⟩ = some (.int .i64 pa) ∧ w9.cell? ⟨w.heap.size + 1, 3, none⟩ = some (.int .i64 pc) ∧ w9.cell? ⟨w.heap.size + 1, 4, none⟩ = some (.int .i64 pe) ∧ w9.cell? ⟨w.heap.size + 1, 5, none⟩ = some (.slice Pt pn pm)))) (by kernel_rfl) (HK.out _ (below_drew (Below.refl _ _))) (fun hHeld => ?_)
    refine wpAnyH_take (i := 0) (oi := { dst := some 5, op := Op.load 51 (Operand.tmp 2), type := 51, pos := "plan.go:78", after := #[], guard := none }) (v := ?v31) rfl (by kernel_rfl) (by kernel_rfl) (by kernel_rfl) (fun _ _ _ h => h) (Or.inl ⟨by rfl, ?hy31⟩) (by assumption) ?rest31
    case hy31 => (intro w' hSw; (try dsimp only at hSw); go_simp; try with_reducible rfl)
    simp only [Act.put, List.setIfInBounds_toArray, List.set_cons_zero, List.set_cons_succ]
    refine wpAnyH_take (i := 1) (oi := { dst := some 6, op := Op.load 25 (Operand.tmp 3), type := 25, pos := "plan.go:78", after := #[], guard := none }) (v := ?v32) rfl (by kernel_rfl) (by kernel_rfl) (by kernel_rfl) (fun _ _ _ h => h) (Or.inl ⟨by rfl, ?hy32⟩) (by assumption) ?rest32
    case hy32 => (intro w' hSw; (try dsimp only at hSw); go_simp; try with_reducible rfl)
    simp only [Act.put, List.setIfInBounds_toArray, List.set_cons_zero, List.set_cons_succ]
    refine wpAnyH_ready (rs := [2]) (by kernel_rfl) (by simp) ?_
    refine AllReadyH.cons (o := { dst := some 7, op := Op.call { callee := Callee.value (Operand.func 51), args := #[Operand.tmp 5, Operand.tmp 6], argTypes := #[51, 25] }, type := 4, pos := "plan.go:78", after := #[{ on := 0, ground := Ground.data }, { on := 1, ground := Ground.data }], guard := none }) rfl (fun K hK => ?_) AllReadyH.nil
    go_simp
    go_at_call 51
    refine (HI.out _).mono ?_
    rintro e w5 ⟨rfl, b5⟩
    have bel5 : Below w0.heap.size w0 w5 := Below.trans (below_drew (Below.refl _ _)) (b5.mono (by simp))
    refine hK.out _ _ (HK.out _ bel5) (fun hHeld => ?_)
    clear hK K
    (try simp only [Act.put, List.setIfInBounds_toArray, List.set_cons_zero, List.set_cons_succ])
    refine wpAnyH_take (i := 3) (oi := { dst := some 8, op := Op.move (Operand.tmp 7), type := 4, pos := "plan.go:78", after := #[{ on := 2, ground := Ground.data }, { on := 2, ground := Ground.chain }], guard := none }) (v := ?v33) rfl (by kernel_rfl) (by kernel_rfl) (by kernel_rfl) (fun _ _ _ h => h) (Or.inl ⟨by rfl, ?hy33⟩) (by assumption) ?rest33
    case hy33 => (intro w' hSw; (try dsimp only at hSw); go_simp; try with_reducible rfl)
    simp only [Act.put, List.setIfInBounds_toArray, List.set_cons_zero, List.set_cons_succ]
    refine wpAnyH_take (i := 4) (oi := { dst := some 9, op := Op.fieldAddr 51 (Operand.tmp 2) 4, type := 0, pos := "plan.go:78", after := #[{ on := 3, ground := Ground.guard }], guard := some (3, true) }) (v := ?v34) rfl (by kernel_rfl) (by kernel_rfl) (by kernel_rfl) (fun _ _ _ h => h) (Or.inl ⟨by rfl, ?hy34⟩) (by assumption) ?rest34
    case hy34 => (intro w' hSw; (try dsimp only at hSw); go_simp; try with_reducible rfl)
    simp only [Act.put, List.setIfInBounds_toArray, List.set_cons_zero, List.set_cons_succ]
    refine wpAnyH_take (i := 5) (oi := { dst := some 10, op := Op.load 3 (Operand.tmp 9), type := 3, pos := "plan.go:78", after := #[{ on := 4, ground := Ground.data }, { on := 3, ground := Ground.guard }], guard := some (3, true) }) (v := ?v35) rfl (by kernel_rfl) (by kernel_rfl) (by kernel_rfl) (fun _ _ _ h => h) (Or.inl ⟨by rfl, ?hy35⟩) (by assumption) ?rest35
    case hy35 => (intro w' hSw; (try dsimp only at hSw); go_simp; try with_reducible rfl)
    simp only [Act.put, List.setIfInBounds_toArray, List.set_cons_zero, List.set_cons_succ]
    refine wpAnyH_take (i := 6) (oi := { dst := some 11, op := Op.fieldAddr 25 (Operand.tmp 3) 4, type := 0, pos := "plan.go:78", after := #[{ on := 3, ground := Ground.guard }], guard := some (3, true) }) (v := ?v36) rfl (by kernel_rfl) (by kernel_rfl) (by kernel_rfl) (fun _ _ _ h => h) (Or.inl ⟨by rfl, ?hy36⟩) (by assumption) ?rest36
    case hy36 => (intro w' hSw; (try dsimp only at hSw); go_simp; try with_reducible rfl)
    simp only [Act.put, List.setIfInBounds_toArray, List.set_cons_zero, List.set_cons_succ]
    refine wpAnyH_take (i := 7) (oi := { dst := some 12, op := Op.load 3 (Operand.tmp 11), type := 3, pos := "plan.go:78", after := #[{ on := 6, ground := Ground.data }, { on := 3, ground := Ground.guard }], guard := some (3, true) }) (v := ?v37) rfl (by kernel_rfl) (by kernel_rfl) (by kernel_rfl) (fun _ _ _ h => h) (Or.inl ⟨by rfl, ?hy37⟩) (by assumption) ?rest37
    case hy37 => (intro w' hSw; (try dsimp only at hSw); go_simp; try with_reducible rfl)
    simp only [Act.put, List.setIfInBounds_toArray, List.set_cons_zero, List.set_cons_succ]
    refine wpAnyH_take (i := 8) (oi := { dst := some 13, op := Op.binOp BinOp.eql 3 (Operand.tmp 10) (Operand.tmp 12) 3, type := 4, pos := "plan.go:78", after := #[{ on := 5, ground := Ground.data }, { on := 7, ground := Ground.data }, { on := 3, ground := Ground.guard }], guard := some (3, true) }) (v := ?v38) rfl (by kernel_rfl) (by kernel_rfl) (by kernel_rfl) (fun _ _ _ h => h) (Or.inl ⟨by rfl, ?hy38⟩) (by assumption) ?rest38
    case hy38 => (intro w' hSw; (try dsimp only at hSw); go_simp; try with_reducible rfl)
    simp only [Act.put, List.setIfInBounds_toArray, List.set_cons_zero, List.set_cons_succ]
    refine wpAnyH_take (i := 9) (oi := { dst := some 14, op := Op.pick (Operand.tmp 8) (Operand.tmp 13) (Operand.const (Value.bool false)), type := 4, pos := "plan.go:78", after := #[{ on := 3, ground := Ground.data }, { on := 8, ground := Ground.data }], guard := none }) (v := ?v39) rfl (by kernel_rfl) (by kernel_rfl) (by kernel_rfl) (fun _ _ _ h => h) (Or.inl ⟨by rfl, ?hy39⟩) (by assumption) ?rest39
    case hy39 => (intro w' hSw; (try dsimp only at hSw); go_simp; try with_reducible rfl)
    simp only [Act.put, List.setIfInBounds_toArray, List.set_cons_zero, List.set_cons_succ]
    refine wpAnyH_take (i := 10) (oi := { dst := some 15, op := Op.move (Operand.tmp 14), type := 4, pos := "plan.go:78", after := #[{ on := 9, ground := Ground.data }, { on := 3, ground := Ground.chain }], guard := none }) (v := ?v40) rfl (by kernel_rfl) (by kernel_rfl) (by kernel_rfl) (fun _ _ _ h => h) (Or.inl ⟨by rfl, ?hy40⟩) (by assumption) ?rest40
    case hy40 => (intro w' hSw; (try dsimp only at hSw); go_simp; try with_reducible rfl)
    simp only [Act.put, List.setIfInBounds_toArray, List.set_cons_zero, List.set_cons_succ]
    refine wpAnyH_take (i := 11) (oi := { dst := some 16, op := Op.fieldAddr 51 (Operand.tmp 2) 3, type := 0, pos := "plan.go:78", after := #[{ on := 10, ground := Ground.guard }], guard := some (10, true) }) (v := undef) rfl (by kernel_rfl) (by kernel_rfl) (by kernel_rfl) (fun _ _ _ h => h) (Or.inr ⟨by rfl, rfl⟩) (by assumption) ?_
    simp only [Act.put, List.setIfInBounds_toArray, List.set_cons_zero, List.set_cons_succ]
    refine wpAnyH_take (i := 12) (oi := { dst := some 17, op := Op.load 3 (Operand.tmp 16), type := 3, pos := "plan.go:78", after := #[{ on := 11, ground := Ground.data }, { on := 10, ground := Ground.guard }], guard := some (10, true) }) (v := undef) rfl (by kernel_rfl) (by kernel_rfl) (by kernel_rfl) (fun _ _ _ h => h) (Or.inr ⟨by rfl, rfl⟩) (by assumption) ?_
    simp only [Act.put, List.setIfInBounds_toArray, List.set_cons_zero, List.set_cons_succ]
    refine wpAnyH_take (i := 13) (oi := { dst := some 18, op := Op.fieldAddr 25 (Operand.tmp 3) 2, type := 0, pos := "plan.go:78", after := #[{ on := 10, ground := Ground.guard }], guard := some (10, true) }) (v := undef) rfl (by kernel_rfl) (by kernel_rfl) (by kernel_rfl) (fun _ _ _ h => h) (Or.inr ⟨by rfl, rfl⟩) (by assumption) ?_
    simp only [Act.put, List.setIfInBounds_toArray, List.set_cons_zero, List.set_cons_succ]
    refine wpAnyH_take (i := 14) (oi := { dst := some 19, op := Op.load 3 (Operand.tmp 18), type := 3, pos := "plan.go:78", after := #[{ on := 13, ground := Ground.data }, { on := 10, ground := Ground.guard }], guard := some (10, true) }) (v := undef) rfl (by kernel_rfl) (by kernel_rfl) (by kernel_rfl) (fun _ _ _ h => h) (Or.inr ⟨by rfl, rfl⟩) (by assumption) ?_
    simp only [Act.put, List.setIfInBounds_toArray, List.set_cons_zero, List.set_cons_succ]
    refine wpAnyH_take (i := 15) (oi := { dst := some 20, op := Op.fieldAddr 25 (Operand.tmp 3) 3, type := 0, pos := "plan.go:78", after := #[{ on := 10, ground := Ground.guard }], guard := some (10, true) }) (v := undef) rfl (by kernel_rfl) (by kernel_rfl) (by kernel_rfl) (fun _ _ _ h => h) (Or.inr ⟨by rfl, rfl⟩) (by assumption) ?_
    simp only [Act.put, List.setIfInBounds_toArray, List.set_cons_zero, List.set_cons_succ]
    refine wpAnyH_take (i := 16) (oi := { dst := some 21, op := Op.load 3 (Operand.tmp 20), type := 3, pos := "plan.go:78", after := #[{ on := 15, ground := Ground.data }, { on := 10, ground := Ground.guard }], guard := some (10, true) }) (v := undef) rfl (by kernel_rfl) (by kernel_rfl) (by kernel_rfl) (fun _ _ _ h => h) (Or.inr ⟨by rfl, rfl⟩) (by assumption) ?_
    simp only [Act.put, List.setIfInBounds_toArray, List.set_cons_zero, List.set_cons_succ]
    refine wpAnyH_take (i := 17) (oi := { dst := some 22, op := Op.binOp BinOp.add 3 (Operand.tmp 19) (Operand.tmp 21) 3, type := 3, pos := "plan.go:78", after := #[{ on := 14, ground := Ground.data }, { on := 16, ground := Ground.data }, { on := 10, ground := Ground.guard }], guard := some (10, true) }) (v := undef) rfl (by kernel_rfl) (by kernel_rfl) (by kernel_rfl) (fun _ _ _ h => h) (Or.inr ⟨by rfl, rfl⟩) (by assumption) ?_
    simp only [Act.put, List.setIfInBounds_toArray, List.set_cons_zero, List.set_cons_succ]
    refine wpAnyH_take (i := 18) (oi := { dst := some 23, op := Op.binOp BinOp.sub 3 (Operand.tmp 17) (Operand.tmp 22) 3, type := 3, pos := "plan.go:78", after := #[{ on := 12, ground := Ground.data }, { on := 17, ground := Ground.data }, { on := 10, ground := Ground.guard }], guard := some (10, true) }) (v := undef) rfl (by kernel_rfl) (by kernel_rfl) (by kernel_rfl) (fun _ _ _ h => h) (Or.inr ⟨by rfl, rfl⟩) (by assumption) ?_
    simp only [Act.put, List.setIfInBounds_toArray, List.set_cons_zero, List.set_cons_succ]
    refine wpAnyH_take (i := 19) (oi := { dst := some 24, op := Op.binOp BinOp.leq 3 (Operand.tmp 23) (Operand.const (Value.int IntKind.i64 8)) 3, type := 4, pos := "plan.go:78", after := #[{ on := 18, ground := Ground.data }, { on := 10, ground := Ground.guard }], guard := some (10, true) }) (v := undef) rfl (by kernel_rfl) (by kernel_rfl) (by kernel_rfl) (fun _ _ _ h => h) (Or.inr ⟨by rfl, rfl⟩) (by assumption) ?_
    simp only [Act.put, List.setIfInBounds_toArray, List.set_cons_zero, List.set_cons_succ]
    refine wpAnyH_take (i := 20) (oi := { dst := some 25, op := Op.pick (Operand.tmp 15) (Operand.tmp 24) (Operand.const (Value.bool false)), type := 4, pos := "plan.go:78", after := #[{ on := 10, ground := Ground.data }, { on := 19, ground := Ground.data }], guard := none }) (v := ?v50) rfl (by kernel_rfl) (by kernel_rfl) (by kernel_rfl) (fun _ _ _ h => h) (Or.inl ⟨by rfl, ?hy50⟩) (by assumption) ?rest50
    case hy50 => (intro w' hSw; (try dsimp only at hSw); go_simp; try with_reducible rfl)
    simp only [Act.put, List.setIfInBounds_toArray, List.set_cons_zero, List.set_cons_succ]
    refine wpAnyH_take (i := 21) (oi := { dst := some 26, op := Op.move (Operand.tmp 25), type := 4, pos := "plan.go:78", after := #[{ on := 20, ground := Ground.data }, { on := 10, ground := Ground.chain }], guard := none }) (v := ?v51) rfl (by kernel_rfl) (by kernel_rfl) (by kernel_rfl) (fun _ _ _ h => h) (Or.inl ⟨by rfl, ?hy51⟩) (by assumption) ?rest51
    case hy51 => (intro w' hSw; (try dsimp only at hSw); go_simp; try with_reducible rfl)
    simp only [Act.put, List.setIfInBounds_toArray, List.set_cons_zero, List.set_cons_succ]
    refine wpAnyH_take (i := 22) (oi := { dst := some 27, op := Op.load 51 (Operand.tmp 2), type := 51, pos := "plan.go:78", after := #[{ on := 21, ground := Ground.guard }], guard := some (21, true) }) (v := undef) rfl (by kernel_rfl) (by kernel_rfl) (by kernel_rfl) (fun _ _ _ h => h) (Or.inr ⟨by rfl, rfl⟩) (by assumption) ?_
    simp only [Act.put, List.setIfInBounds_toArray, List.set_cons_zero, List.set_cons_succ]
    refine wpAnyH_take (i := 23) (oi := { dst := some 28, op := Op.load 25 (Operand.tmp 3), type := 25, pos := "plan.go:78", after := #[{ on := 21, ground := Ground.guard }], guard := some (21, true) }) (v := undef) rfl (by kernel_rfl) (by kernel_rfl) (by kernel_rfl) (fun _ _ _ h => h) (Or.inr ⟨by rfl, rfl⟩) (by assumption) ?_
    simp only [Act.put, List.setIfInBounds_toArray, List.set_cons_zero, List.set_cons_succ]
    refine wpAnyH_take (i := 24) (oi := { dst := some 29, op := Op.call { callee := Callee.value (Operand.func 49), args := #[Operand.tmp 27, Operand.tmp 28], argTypes := #[51, 25] }, type := 3, pos := "plan.go:78", after := #[{ on := 22, ground := Ground.data }, { on := 23, ground := Ground.data }, { on := 21, ground := Ground.chain }, { on := 21, ground := Ground.guard }], guard := some (21, true) }) (v := undef) rfl (by kernel_rfl) (by kernel_rfl) (by kernel_rfl) (fun _ _ _ h => h) (Or.inr ⟨by rfl, rfl⟩) (by assumption) ?_
    simp only [Act.put, List.setIfInBounds_toArray, List.set_cons_zero, List.set_cons_succ]
    refine wpAnyH_take (i := 25) (oi := { dst := some 30, op := Op.fieldAddr 25 (Operand.tmp 3) 1, type := 0, pos := "plan.go:78", after := #[{ on := 21, ground := Ground.guard }], guard := some (21, true) }) (v := undef) rfl (by kernel_rfl) (by kernel_rfl) (by kernel_rfl) (fun _ _ _ h => h) (Or.inr ⟨by rfl, rfl⟩) (by assumption) ?_
    simp only [Act.put, List.setIfInBounds_toArray, List.set_cons_zero, List.set_cons_succ]
    refine wpAnyH_take (i := 26) (oi := { dst := some 31, op := Op.load 3 (Operand.tmp 30), type := 3, pos := "plan.go:78", after := #[{ on := 25, ground := Ground.data }, { on := 21, ground := Ground.guard }], guard := some (21, true) }) (v := undef) rfl (by kernel_rfl) (by kernel_rfl) (by kernel_rfl) (fun _ _ _ h => h) (Or.inr ⟨by rfl, rfl⟩) (by assumption) ?_
    simp only [Act.put, List.setIfInBounds_toArray, List.set_cons_zero, List.set_cons_succ]
    refine wpAnyH_take (i := 27) (oi := { dst := some 32, op := Op.call { callee := Callee.value (Operand.func 75), args := #[Operand.tmp 31], argTypes := #[3] }, type := 3, pos := "plan.go:78", after := #[{ on := 26, ground := Ground.data }, { on := 24, ground := Ground.chain }, { on := 21, ground := Ground.guard }], guard := some (21, true) }) (v := undef) rfl (by kernel_rfl) (by kernel_rfl) (by kernel_rfl) (fun _ _ _ h => h) (Or.inr ⟨by rfl, rfl⟩) (by assumption) ?_
    simp only [Act.put, List.setIfInBounds_toArray, List.set_cons_zero, List.set_cons_succ]
    refine wpAnyH_take (i := 28) (oi := { dst := some 33, op := Op.binOp BinOp.leq 3 (Operand.tmp 29) (Operand.tmp 32) 3, type := 4, pos := "plan.go:78", after := #[{ on := 24, ground := Ground.data }, { on := 27, ground := Ground.data }, { on := 21, ground := Ground.guard }], guard := some (21, true) }) (v := undef) rfl (by kernel_rfl) (by kernel_rfl) (by kernel_rfl) (fun _ _ _ h => h) (Or.inr ⟨by rfl, rfl⟩) (by assumption) ?_
    simp only [Act.put, List.setIfInBounds_toArray, List.set_cons_zero, List.set_cons_succ]
    refine wpAnyH_take (i := 29) (oi := { dst := some 34, op := Op.pick (Operand.tmp 26) (Operand.tmp 33) (Operand.const (Value.bool false)), type := 4, pos := "plan.go:78", after := #[{ on := 21, ground := Ground.data }, { on := 28, ground := Ground.data }], guard := none }) (v := ?v59) rfl (by kernel_rfl) (by kernel_rfl) (by kernel_rfl) (fun _ _ _ h => h) (Or.inl ⟨by rfl, ?hy59⟩) (by assumption) ?rest59
    case hy59 => (intro w' hSw; (try dsimp only at hSw); go_simp; try with_reducible rfl)
    simp only [Act.put, List.setIfInBounds_toArray, List.set_cons_zero, List.set_cons_succ]
    refine wpAnyH_take (i := 30) (oi := { dst := some 4, op := Op.assign (Operand.tmp 34), type := 4, pos := "plan.go:78", after := #[{ on := 29, ground := Ground.data }, { on := 27, ground := Ground.chain }, { on := 0, ground := Ground.phase }, { on := 1, ground := Ground.phase }, { on := 2, ground := Ground.phase }, { on := 3, ground := Ground.phase }, { on := 4, ground := Ground.phase }, { on := 5, ground := Ground.phase }, { on := 6, ground := Ground.phase }, { on := 7, ground := Ground.phase }, { on := 8, ground := Ground.phase }, { on := 9, ground := Ground.phase }, { on := 10, ground := Ground.phase }, { on := 11, ground := Ground.phase }, { on := 12, ground := Ground.phase }, { on := 13, ground := Ground.phase }, { on := 14, ground := Ground.phase }, { on := 15, ground := Ground.phase }, { on := 16, ground := Ground.phase }, { on := 17, ground := Ground.phase }, { on := 18, ground := Ground.phase }, { on := 19, ground := Ground.phase }, { on := 20, ground := Ground.phase }, { on := 21, ground := Ground.phase }, { on := 22, ground := Ground.phase }, { on := 23, ground := Ground.phase }, { on := 24, ground := Ground.phase }, { on := 25, ground := Ground.phase }, { on := 26, ground := Ground.phase }, { on := 27, ground := Ground.phase }, { on := 28, ground := Ground.phase }, { on := 29, ground := Ground.phase }], guard := none }) (v := ?v60) rfl (by kernel_rfl) (by kernel_rfl) (by kernel_rfl) (fun _ _ _ h => h) (Or.inl ⟨by rfl, ?hy60⟩) (by assumption) ?rest60
    case hy60 => (intro w' hSw; (try dsimp only at hSw); go_simp; try with_reducible rfl)
    simp only [Act.put, List.setIfInBounds_toArray, List.set_cons_zero, List.set_cons_succ]
    refine wpAnyH_done (by kernel_rfl) ?_ _
    have BEL := Lib.hid (bel0.out.trans (bel5.mono bel0.out.size))
    clear HK bel5 hx0 hx1 bel0 HI HC HM
    go_wp2
    go_ret
    exact ⟨by rw [HB.out]; try rfl, BEL.out⟩
  have f1 : (t.ev == pe) = true := by simp [h2]
  have hwr1 : IntKind.i64.wrap (pa + pc) = pa + pc := by rw [IntKind.wrap_i64]; omega
  have hwr2 : IntKind.i64.wrap (t.ad - (pa + pc)) = t.ad - (pa + pc) := by rw [IntKind.wrap_i64]; omega
  by_cases h3 : t.ad - (pa + pc) ≤ 8
  case neg =>
    have HB : Hid (joinB ⟨pu, pk, pa, pc, pe, tg⟩ t = false) := Lib.hid (joinB_no (fun h => h3 (by omega)))
    have f2 : decide (t.ad - (pa + pc) ≤ 8) = false := decide_eq_false h3
    clear h1 h2
    go_enter Tryz.func48, Tryz.ntmps48
    go_wp2
    have HK := HK0
    clear HK0
    generalize ((w.alloc (.cells (tgC t).toArray 51)).alloc (.cells #[.int .i64 pu, .int .i64 pk, .int .i64 pa, .int .i64 pc, .int .i64 pe, .slice Pt pn pm] 25)) = w0 at *
    refine wp_region_held_drew (S := (fun w9 => Below w0.heap.size w0 w9 ∧ (w9.cell? ⟨w.heap.size, 3, none⟩ = some (.int .i64 t.ad) ∧ w9.cell? ⟨w.heap.size, 4, none⟩ = some (.int .i64 t.ev)) ∧ (ldTag (.pointer (some ⟨w.heap.size, 0, none⟩))).run Tryz.prog w9 = .ok (tgV t) w9 ∧ (w9.cell? ⟨w.heap.size + 1, 0, none⟩ = some (.int .i64 pu) ∧ w9.cell? ⟨w.heap.size + 1, 1, none⟩ = some (.int .i64 pk) ∧ w9.cell? ⟨w.heap.size + 1, 2, none⟩ = some (.int .i64 pa) ∧ w9.cell? ⟨w.heap.size + 1, 3, none⟩ = some (.int .i64 pc) ∧ w9.cell? ⟨w.heap.size + 1, 4, none⟩ = some (.int .i64 pe) ∧ w9.cell? ⟨w.heap.size + 1, 5, none⟩ = some (.slice Pt pn pm)))) (by kernel_rfl) (HK.out _ (below_drew (Below.refl _ _))) (fun hHeld => ?_)
    refine wpAnyH_take (i := 0) (oi := { dst := some 5, op := Op.load 51 (Operand.tmp 2), type := 51, pos := "plan.go:78", after := #[], guard := none }) (v := ?v61) rfl (by kernel_rfl) (by kernel_rfl) (by kernel_rfl) (fun _ _ _ h => h) (Or.inl ⟨by rfl, ?hy61⟩) (by assumption) ?rest61
    case hy61 => (intro w' hSw; (try dsimp only at hSw); go_simp; try with_reducible rfl)
    simp only [Act.put, List.setIfInBounds_toArray, List.set_cons_zero, List.set_cons_succ]
    refine wpAnyH_take (i := 1) (oi := { dst := some 6, op := Op.load 25 (Operand.tmp 3), type := 25, pos := "plan.go:78", after := #[], guard := none }) (v := ?v62) rfl (by kernel_rfl) (by kernel_rfl) (by kernel_rfl) (fun _ _ _ h => h) (Or.inl ⟨by rfl, ?hy62⟩) (by assumption) ?rest62
    case hy62 => (intro w' hSw; (try dsimp only at hSw); go_simp; try with_reducible rfl)
    simp only [Act.put, List.setIfInBounds_toArray, List.set_cons_zero, List.set_cons_succ]
    refine wpAnyH_ready (rs := [2]) (by kernel_rfl) (by simp) ?_
    refine AllReadyH.cons (o := { dst := some 7, op := Op.call { callee := Callee.value (Operand.func 51), args := #[Operand.tmp 5, Operand.tmp 6], argTypes := #[51, 25] }, type := 4, pos := "plan.go:78", after := #[{ on := 0, ground := Ground.data }, { on := 1, ground := Ground.data }], guard := none }) rfl (fun K hK => ?_) AllReadyH.nil
    go_simp
    go_at_call 51
    refine (HI.out _).mono ?_
    rintro e w5 ⟨rfl, b5⟩
    have bel5 : Below w0.heap.size w0 w5 := Below.trans (below_drew (Below.refl _ _)) (b5.mono (by simp))
    refine hK.out _ _ (HK.out _ bel5) (fun hHeld => ?_)
    clear hK K
    (try simp only [Act.put, List.setIfInBounds_toArray, List.set_cons_zero, List.set_cons_succ])
    refine wpAnyH_take (i := 3) (oi := { dst := some 8, op := Op.move (Operand.tmp 7), type := 4, pos := "plan.go:78", after := #[{ on := 2, ground := Ground.data }, { on := 2, ground := Ground.chain }], guard := none }) (v := ?v63) rfl (by kernel_rfl) (by kernel_rfl) (by kernel_rfl) (fun _ _ _ h => h) (Or.inl ⟨by rfl, ?hy63⟩) (by assumption) ?rest63
    case hy63 => (intro w' hSw; (try dsimp only at hSw); go_simp; try with_reducible rfl)
    simp only [Act.put, List.setIfInBounds_toArray, List.set_cons_zero, List.set_cons_succ]
    refine wpAnyH_take (i := 4) (oi := { dst := some 9, op := Op.fieldAddr 51 (Operand.tmp 2) 4, type := 0, pos := "plan.go:78", after := #[{ on := 3, ground := Ground.guard }], guard := some (3, true) }) (v := ?v64) rfl (by kernel_rfl) (by kernel_rfl) (by kernel_rfl) (fun _ _ _ h => h) (Or.inl ⟨by rfl, ?hy64⟩) (by assumption) ?rest64
    case hy64 => (intro w' hSw; (try dsimp only at hSw); go_simp; try with_reducible rfl)
    simp only [Act.put, List.setIfInBounds_toArray, List.set_cons_zero, List.set_cons_succ]
    refine wpAnyH_take (i := 5) (oi := { dst := some 10, op := Op.load 3 (Operand.tmp 9), type := 3, pos := "plan.go:78", after := #[{ on := 4, ground := Ground.data }, { on := 3, ground := Ground.guard }], guard := some (3, true) }) (v := ?v65) rfl (by kernel_rfl) (by kernel_rfl) (by kernel_rfl) (fun _ _ _ h => h) (Or.inl ⟨by rfl, ?hy65⟩) (by assumption) ?rest65
    case hy65 => (intro w' hSw; (try dsimp only at hSw); go_simp; try with_reducible rfl)
    simp only [Act.put, List.setIfInBounds_toArray, List.set_cons_zero, List.set_cons_succ]
    refine wpAnyH_take (i := 6) (oi := { dst := some 11, op := Op.fieldAddr 25 (Operand.tmp 3) 4, type := 0, pos := "plan.go:78", after := #[{ on := 3, ground := Ground.guard }], guard := some (3, true) }) (v := ?v66) rfl (by kernel_rfl) (by kernel_rfl) (by kernel_rfl) (fun _ _ _ h => h) (Or.inl ⟨by rfl, ?hy66⟩) (by assumption) ?rest66
    case hy66 => (intro w' hSw; (try dsimp only at hSw); go_simp; try with_reducible rfl)
    simp only [Act.put, List.setIfInBounds_toArray, List.set_cons_zero, List.set_cons_succ]
    refine wpAnyH_take (i := 7) (oi := { dst := some 12, op := Op.load 3 (Operand.tmp 11), type := 3, pos := "plan.go:78", after := #[{ on := 6, ground := Ground.data }, { on := 3, ground := Ground.guard }], guard := some (3, true) }) (v := ?v67) rfl (by kernel_rfl) (by kernel_rfl) (by kernel_rfl) (fun _ _ _ h => h) (Or.inl ⟨by rfl, ?hy67⟩) (by assumption) ?rest67
    case hy67 => (intro w' hSw; (try dsimp only at hSw); go_simp; try with_reducible rfl)
    simp only [Act.put, List.setIfInBounds_toArray, List.set_cons_zero, List.set_cons_succ]
    refine wpAnyH_take (i := 8) (oi := { dst := some 13, op := Op.binOp BinOp.eql 3 (Operand.tmp 10) (Operand.tmp 12) 3, type := 4, pos := "plan.go:78", after := #[{ on := 5, ground := Ground.data }, { on := 7, ground := Ground.data }, { on := 3, ground := Ground.guard }], guard := some (3, true) }) (v := ?v68) rfl (by kernel_rfl) (by kernel_rfl) (by kernel_rfl) (fun _ _ _ h => h) (Or.inl ⟨by rfl, ?hy68⟩) (by assumption) ?rest68
    case hy68 => (intro w' hSw; (try dsimp only at hSw); go_simp; try with_reducible rfl)
    simp only [Act.put, List.setIfInBounds_toArray, List.set_cons_zero, List.set_cons_succ]
    refine wpAnyH_take (i := 9) (oi := { dst := some 14, op := Op.pick (Operand.tmp 8) (Operand.tmp 13) (Operand.const (Value.bool false)), type := 4, pos := "plan.go:78", after := #[{ on := 3, ground := Ground.data }, { on := 8, ground := Ground.data }], guard := none }) (v := ?v69) rfl (by kernel_rfl) (by kernel_rfl) (by kernel_rfl) (fun _ _ _ h => h) (Or.inl ⟨by rfl, ?hy69⟩) (by assumption) ?rest69
    case hy69 => (intro w' hSw; (try dsimp only at hSw); go_simp; try with_reducible rfl)
    simp only [Act.put, List.setIfInBounds_toArray, List.set_cons_zero, List.set_cons_succ]
    refine wpAnyH_take (i := 10) (oi := { dst := some 15, op := Op.move (Operand.tmp 14), type := 4, pos := "plan.go:78", after := #[{ on := 9, ground := Ground.data }, { on := 3, ground := Ground.chain }], guard := none }) (v := ?v70) rfl (by kernel_rfl) (by kernel_rfl) (by kernel_rfl) (fun _ _ _ h => h) (Or.inl ⟨by rfl, ?hy70⟩) (by assumption) ?rest70
    case hy70 => (intro w' hSw; (try dsimp only at hSw); go_simp; try with_reducible rfl)
    simp only [Act.put, List.setIfInBounds_toArray, List.set_cons_zero, List.set_cons_succ]
    refine wpAnyH_take (i := 11) (oi := { dst := some 16, op := Op.fieldAddr 51 (Operand.tmp 2) 3, type := 0, pos := "plan.go:78", after := #[{ on := 10, ground := Ground.guard }], guard := some (10, true) }) (v := ?v71) rfl (by kernel_rfl) (by kernel_rfl) (by kernel_rfl) (fun _ _ _ h => h) (Or.inl ⟨by rfl, ?hy71⟩) (by assumption) ?rest71
    case hy71 => (intro w' hSw; (try dsimp only at hSw); go_simp; try with_reducible rfl)
    simp only [Act.put, List.setIfInBounds_toArray, List.set_cons_zero, List.set_cons_succ]
    refine wpAnyH_take (i := 12) (oi := { dst := some 17, op := Op.load 3 (Operand.tmp 16), type := 3, pos := "plan.go:78", after := #[{ on := 11, ground := Ground.data }, { on := 10, ground := Ground.guard }], guard := some (10, true) }) (v := ?v72) rfl (by kernel_rfl) (by kernel_rfl) (by kernel_rfl) (fun _ _ _ h => h) (Or.inl ⟨by rfl, ?hy72⟩) (by assumption) ?rest72
    case hy72 => (intro w' hSw; (try dsimp only at hSw); go_simp; try with_reducible rfl)
    simp only [Act.put, List.setIfInBounds_toArray, List.set_cons_zero, List.set_cons_succ]
    refine wpAnyH_take (i := 13) (oi := { dst := some 18, op := Op.fieldAddr 25 (Operand.tmp 3) 2, type := 0, pos := "plan.go:78", after := #[{ on := 10, ground := Ground.guard }], guard := some (10, true) }) (v := ?v73) rfl (by kernel_rfl) (by kernel_rfl) (by kernel_rfl) (fun _ _ _ h => h) (Or.inl ⟨by rfl, ?hy73⟩) (by assumption) ?rest73
    case hy73 => (intro w' hSw; (try dsimp only at hSw); go_simp; try with_reducible rfl)
    simp only [Act.put, List.setIfInBounds_toArray, List.set_cons_zero, List.set_cons_succ]
    refine wpAnyH_take (i := 14) (oi := { dst := some 19, op := Op.load 3 (Operand.tmp 18), type := 3, pos := "plan.go:78", after := #[{ on := 13, ground := Ground.data }, { on := 10, ground := Ground.guard }], guard := some (10, true) }) (v := ?v74) rfl (by kernel_rfl) (by kernel_rfl) (by kernel_rfl) (fun _ _ _ h => h) (Or.inl ⟨by rfl, ?hy74⟩) (by assumption) ?rest74
    case hy74 => (intro w' hSw; (try dsimp only at hSw); go_simp; try with_reducible rfl)
    simp only [Act.put, List.setIfInBounds_toArray, List.set_cons_zero, List.set_cons_succ]
    refine wpAnyH_take (i := 15) (oi := { dst := some 20, op := Op.fieldAddr 25 (Operand.tmp 3) 3, type := 0, pos := "plan.go:78", after := #[{ on := 10, ground := Ground.guard }], guard := some (10, true) }) (v := ?v75) rfl (by kernel_rfl) (by kernel_rfl) (by kernel_rfl) (fun _ _ _ h => h) (Or.inl ⟨by rfl, ?hy75⟩) (by assumption) ?rest75
    case hy75 => (intro w' hSw; (try dsimp only at hSw); go_simp; try with_reducible rfl)
    simp only [Act.put, List.setIfInBounds_toArray, List.set_cons_zero, List.set_cons_succ]
    refine wpAnyH_take (i := 16) (oi := { dst := some 21, op := Op.load 3 (Operand.tmp 20), type := 3, pos := "plan.go:78", after := #[{ on := 15, ground := Ground.data }, { on := 10, ground := Ground.guard }], guard := some (10, true) }) (v := ?v76) rfl (by kernel_rfl) (by kernel_rfl) (by kernel_rfl) (fun _ _ _ h => h) (Or.inl ⟨by rfl, ?hy76⟩) (by assumption) ?rest76
    case hy76 => (intro w' hSw; (try dsimp only at hSw); go_simp; try with_reducible rfl)
    simp only [Act.put, List.setIfInBounds_toArray, List.set_cons_zero, List.set_cons_succ]
    refine wpAnyH_take (i := 17) (oi := { dst := some 22, op := Op.binOp BinOp.add 3 (Operand.tmp 19) (Operand.tmp 21) 3, type := 3, pos := "plan.go:78", after := #[{ on := 14, ground := Ground.data }, { on := 16, ground := Ground.data }, { on := 10, ground := Ground.guard }], guard := some (10, true) }) (v := ?v77) rfl (by kernel_rfl) (by kernel_rfl) (by kernel_rfl) (fun _ _ _ h => h) (Or.inl ⟨by rfl, ?hy77⟩) (by assumption) ?rest77
    case hy77 => (intro w' hSw; (try dsimp only at hSw); go_simp; try with_reducible rfl)
    simp only [Act.put, List.setIfInBounds_toArray, List.set_cons_zero, List.set_cons_succ]
    refine wpAnyH_take (i := 18) (oi := { dst := some 23, op := Op.binOp BinOp.sub 3 (Operand.tmp 17) (Operand.tmp 22) 3, type := 3, pos := "plan.go:78", after := #[{ on := 12, ground := Ground.data }, { on := 17, ground := Ground.data }, { on := 10, ground := Ground.guard }], guard := some (10, true) }) (v := ?v78) rfl (by kernel_rfl) (by kernel_rfl) (by kernel_rfl) (fun _ _ _ h => h) (Or.inl ⟨by rfl, ?hy78⟩) (by assumption) ?rest78
    case hy78 => (intro w' hSw; (try dsimp only at hSw); go_simp; try with_reducible rfl)
    simp only [Act.put, List.setIfInBounds_toArray, List.set_cons_zero, List.set_cons_succ]
    refine wpAnyH_take (i := 19) (oi := { dst := some 24, op := Op.binOp BinOp.leq 3 (Operand.tmp 23) (Operand.const (Value.int IntKind.i64 8)) 3, type := 4, pos := "plan.go:78", after := #[{ on := 18, ground := Ground.data }, { on := 10, ground := Ground.guard }], guard := some (10, true) }) (v := ?v79) rfl (by kernel_rfl) (by kernel_rfl) (by kernel_rfl) (fun _ _ _ h => h) (Or.inl ⟨by rfl, ?hy79⟩) (by assumption) ?rest79
    case hy79 => (intro w' hSw; (try dsimp only at hSw); go_simp; try with_reducible rfl)
    simp only [Act.put, List.setIfInBounds_toArray, List.set_cons_zero, List.set_cons_succ]
    refine wpAnyH_take (i := 20) (oi := { dst := some 25, op := Op.pick (Operand.tmp 15) (Operand.tmp 24) (Operand.const (Value.bool false)), type := 4, pos := "plan.go:78", after := #[{ on := 10, ground := Ground.data }, { on := 19, ground := Ground.data }], guard := none }) (v := ?v80) rfl (by kernel_rfl) (by kernel_rfl) (by kernel_rfl) (fun _ _ _ h => h) (Or.inl ⟨by rfl, ?hy80⟩) (by assumption) ?rest80
    case hy80 => (intro w' hSw; (try dsimp only at hSw); go_simp; try with_reducible rfl)
    simp only [Act.put, List.setIfInBounds_toArray, List.set_cons_zero, List.set_cons_succ]
    refine wpAnyH_take (i := 21) (oi := { dst := some 26, op := Op.move (Operand.tmp 25), type := 4, pos := "plan.go:78", after := #[{ on := 20, ground := Ground.data }, { on := 10, ground := Ground.chain }], guard := none }) (v := ?v81) rfl (by kernel_rfl) (by kernel_rfl) (by kernel_rfl) (fun _ _ _ h => h) (Or.inl ⟨by rfl, ?hy81⟩) (by assumption) ?rest81
    case hy81 => (intro w' hSw; (try dsimp only at hSw); go_simp; try with_reducible rfl)
    simp only [Act.put, List.setIfInBounds_toArray, List.set_cons_zero, List.set_cons_succ]
    refine wpAnyH_take (i := 22) (oi := { dst := some 27, op := Op.load 51 (Operand.tmp 2), type := 51, pos := "plan.go:78", after := #[{ on := 21, ground := Ground.guard }], guard := some (21, true) }) (v := undef) rfl (by kernel_rfl) (by kernel_rfl) (by kernel_rfl) (fun _ _ _ h => h) (Or.inr ⟨by rfl, rfl⟩) (by assumption) ?_
    simp only [Act.put, List.setIfInBounds_toArray, List.set_cons_zero, List.set_cons_succ]
    refine wpAnyH_take (i := 23) (oi := { dst := some 28, op := Op.load 25 (Operand.tmp 3), type := 25, pos := "plan.go:78", after := #[{ on := 21, ground := Ground.guard }], guard := some (21, true) }) (v := undef) rfl (by kernel_rfl) (by kernel_rfl) (by kernel_rfl) (fun _ _ _ h => h) (Or.inr ⟨by rfl, rfl⟩) (by assumption) ?_
    simp only [Act.put, List.setIfInBounds_toArray, List.set_cons_zero, List.set_cons_succ]
    refine wpAnyH_take (i := 24) (oi := { dst := some 29, op := Op.call { callee := Callee.value (Operand.func 49), args := #[Operand.tmp 27, Operand.tmp 28], argTypes := #[51, 25] }, type := 3, pos := "plan.go:78", after := #[{ on := 22, ground := Ground.data }, { on := 23, ground := Ground.data }, { on := 21, ground := Ground.chain }, { on := 21, ground := Ground.guard }], guard := some (21, true) }) (v := undef) rfl (by kernel_rfl) (by kernel_rfl) (by kernel_rfl) (fun _ _ _ h => h) (Or.inr ⟨by rfl, rfl⟩) (by assumption) ?_
    simp only [Act.put, List.setIfInBounds_toArray, List.set_cons_zero, List.set_cons_succ]
    refine wpAnyH_take (i := 25) (oi := { dst := some 30, op := Op.fieldAddr 25 (Operand.tmp 3) 1, type := 0, pos := "plan.go:78", after := #[{ on := 21, ground := Ground.guard }], guard := some (21, true) }) (v := undef) rfl (by kernel_rfl) (by kernel_rfl) (by kernel_rfl) (fun _ _ _ h => h) (Or.inr ⟨by rfl, rfl⟩) (by assumption) ?_
    simp only [Act.put, List.setIfInBounds_toArray, List.set_cons_zero, List.set_cons_succ]
    refine wpAnyH_take (i := 26) (oi := { dst := some 31, op := Op.load 3 (Operand.tmp 30), type := 3, pos := "plan.go:78", after := #[{ on := 25, ground := Ground.data }, { on := 21, ground := Ground.guard }], guard := some (21, true) }) (v := undef) rfl (by kernel_rfl) (by kernel_rfl) (by kernel_rfl) (fun _ _ _ h => h) (Or.inr ⟨by rfl, rfl⟩) (by assumption) ?_
    simp only [Act.put, List.setIfInBounds_toArray, List.set_cons_zero, List.set_cons_succ]
    refine wpAnyH_take (i := 27) (oi := { dst := some 32, op := Op.call { callee := Callee.value (Operand.func 75), args := #[Operand.tmp 31], argTypes := #[3] }, type := 3, pos := "plan.go:78", after := #[{ on := 26, ground := Ground.data }, { on := 24, ground := Ground.chain }, { on := 21, ground := Ground.guard }], guard := some (21, true) }) (v := undef) rfl (by kernel_rfl) (by kernel_rfl) (by kernel_rfl) (fun _ _ _ h => h) (Or.inr ⟨by rfl, rfl⟩) (by assumption) ?_
    simp only [Act.put, List.setIfInBounds_toArray, List.set_cons_zero, List.set_cons_succ]
    refine wpAnyH_take (i := 28) (oi := { dst := some 33, op := Op.binOp BinOp.leq 3 (Operand.tmp 29) (Operand.tmp 32) 3, type := 4, pos := "plan.go:78", after := #[{ on := 24, ground := Ground.data }, { on := 27, ground := Ground.data }, { on := 21, ground := Ground.guard }], guard := some (21, true) }) (v := undef) rfl (by kernel_rfl) (by kernel_rfl) (by kernel_rfl) (fun _ _ _ h => h) (Or.inr ⟨by rfl, rfl⟩) (by assumption) ?_
    simp only [Act.put, List.setIfInBounds_toArray, List.set_cons_zero, List.set_cons_succ]
    refine wpAnyH_take (i := 29) (oi := { dst := some 34, op := Op.pick (Operand.tmp 26) (Operand.tmp 33) (Operand.const (Value.bool false)), type := 4, pos := "plan.go:78", after := #[{ on := 21, ground := Ground.data }, { on := 28, ground := Ground.data }], guard := none }) (v := ?v89) rfl (by kernel_rfl) (by kernel_rfl) (by kernel_rfl) (fun _ _ _ h => h) (Or.inl ⟨by rfl, ?hy89⟩) (by assumption) ?rest89
    case hy89 => (intro w' hSw; (try dsimp only at hSw); go_simp; try with_reducible rfl)
    simp only [Act.put, List.setIfInBounds_toArray, List.set_cons_zero, List.set_cons_succ]
    refine wpAnyH_take (i := 30) (oi := { dst := some 4, op := Op.assign (Operand.tmp 34), type := 4, pos := "plan.go:78", after := #[{ on := 29, ground := Ground.data }, { on := 27, ground := Ground.chain }, { on := 0, ground := Ground.phase }, { on := 1, ground := Ground.phase }, { on := 2, ground := Ground.phase }, { on := 3, ground := Ground.phase }, { on := 4, ground := Ground.phase }, { on := 5, ground := Ground.phase }, { on := 6, ground := Ground.phase }, { on := 7, ground := Ground.phase }, { on := 8, ground := Ground.phase }, { on := 9, ground := Ground.phase }, { on := 10, ground := Ground.phase }, { on := 11, ground := Ground.phase }, { on := 12, ground := Ground.phase }, { on := 13, ground := Ground.phase }, { on := 14, ground := Ground.phase }, { on := 15, ground := Ground.phase }, { on := 16, ground := Ground.phase }, { on := 17, ground := Ground.phase }, { on := 18, ground := Ground.phase }, { on := 19, ground := Ground.phase }, { on := 20, ground := Ground.phase }, { on := 21, ground := Ground.phase }, { on := 22, ground := Ground.phase }, { on := 23, ground := Ground.phase }, { on := 24, ground := Ground.phase }, { on := 25, ground := Ground.phase }, { on := 26, ground := Ground.phase }, { on := 27, ground := Ground.phase }, { on := 28, ground := Ground.phase }, { on := 29, ground := Ground.phase }], guard := none }) (v := ?v90) rfl (by kernel_rfl) (by kernel_rfl) (by kernel_rfl) (fun _ _ _ h => h) (Or.inl ⟨by rfl, ?hy90⟩) (by assumption) ?rest90
    case hy90 => (intro w' hSw; (try dsimp only at hSw); go_simp; try with_reducible rfl)
    simp only [Act.put, List.setIfInBounds_toArray, List.set_cons_zero, List.set_cons_succ]
    refine wpAnyH_done (by kernel_rfl) ?_ _
    have BEL := Lib.hid (bel0.out.trans (bel5.mono bel0.out.size))
    clear HK bel5 hx0 hx1 bel0 HI HC HM
    go_wp2
    go_ret
    exact ⟨by rw [HB.out]; try rfl, BEL.out⟩
  have HB : Hid (joinB ⟨pu, pk, pa, pc, pe, tg⟩ t = decide (cntJ ⟨pu, pk, pa, pc, pe, tg⟩ t ≤ mostK pk)) := Lib.hid (by
    unfold joinB
    by_cases h4 : cntJ ⟨pu, pk, pa, pc, pe, tg⟩ t ≤ mostK pk
    · rw [decide_eq_true h4]
      exact decide_eq_true ⟨h1.1.symm, h2.symm, h1.2.symm, by show t.ad - 8 ≤ pa + pc; omega, by rw [h1.2]; exact h4⟩
    · rw [decide_eq_false h4]
      exact decide_eq_false (fun h => h4 (by have := h.2.2.2.2; rwa [h1.2] at this)))
  generalize cntJ ⟨pu, pk, pa, pc, pe, tg⟩ t = cn at *
  generalize mostK pk = mo at *
  clear h1 h2
  go_enter Tryz.func48, Tryz.ntmps48
  go_wp2
  have HK := HK0
  clear HK0
  generalize ((w.alloc (.cells (tgC t).toArray 51)).alloc (.cells #[.int .i64 pu, .int .i64 pk, .int .i64 pa, .int .i64 pc, .int .i64 pe, .slice Pt pn pm] 25)) = w0 at *
  have belh : ∀ w9 : World, (Below w0.heap.size w0 w9 ∧ (w9.cell? ⟨w.heap.size, 3, none⟩ = some (.int .i64 t.ad) ∧ w9.cell? ⟨w.heap.size, 4, none⟩ = some (.int .i64 t.ev)) ∧ (ldTag (.pointer (some ⟨w.heap.size, 0, none⟩))).run Tryz.prog w9 = .ok (tgV t) w9 ∧ (w9.cell? ⟨w.heap.size + 1, 0, none⟩ = some (.int .i64 pu) ∧ w9.cell? ⟨w.heap.size + 1, 1, none⟩ = some (.int .i64 pk) ∧ w9.cell? ⟨w.heap.size + 1, 2, none⟩ = some (.int .i64 pa) ∧ w9.cell? ⟨w.heap.size + 1, 3, none⟩ = some (.int .i64 pc) ∧ w9.cell? ⟨w.heap.size + 1, 4, none⟩ = some (.int .i64 pe) ∧ w9.cell? ⟨w.heap.size + 1, 5, none⟩ = some (.slice Pt pn pm))) → Below w0.heap.size w0 w9 := fun w9 h => h.1
  go_region_held3 (fun w9 => Below w0.heap.size w0 w9 ∧ (w9.cell? ⟨w.heap.size, 3, none⟩ = some (.int .i64 t.ad) ∧ w9.cell? ⟨w.heap.size, 4, none⟩ = some (.int .i64 t.ev)) ∧ (ldTag (.pointer (some ⟨w.heap.size, 0, none⟩))).run Tryz.prog w9 = .ok (tgV t) w9 ∧ (w9.cell? ⟨w.heap.size + 1, 0, none⟩ = some (.int .i64 pu) ∧ w9.cell? ⟨w.heap.size + 1, 1, none⟩ = some (.int .i64 pk) ∧ w9.cell? ⟨w.heap.size + 1, 2, none⟩ = some (.int .i64 pa) ∧ w9.cell? ⟨w.heap.size + 1, 3, none⟩ = some (.int .i64 pc) ∧ w9.cell? ⟨w.heap.size + 1, 4, none⟩ = some (.int .i64 pe) ∧ w9.cell? ⟨w.heap.size + 1, 5, none⟩ = some (.slice Pt pn pm)))
    ((refine HK.out _ ?_
      repeat' (first
        | with_reducible exact Below.refl _ _
        | with_reducible exact bel7
        | with_reducible exact bel6
        | with_reducible exact bel5
        | with_reducible exact belh _ (by assumption)
        | with_reducible apply below_drew
        | with_reducible apply below_drewN
        | fail)))
    (first
      | (go_at_call 51; have bh := belh _ (by assumption); refine (HI.out _).mono ?_; rintro e w5 ⟨rfl, b5⟩; have bel5 : Below w0.heap.size w0 w5 := Below.trans bh (b5.mono bh.size))
      | (go_at_call 49; have bh := belh _ (by assumption); refine (HC.out _).mono ?_; rintro e w6 ⟨rfl, b6⟩; have bel6 : Below w0.heap.size w0 w6 := Below.trans bh (b6.mono bh.size))
      | (go_at_call 75; refine (HM.out _).mono ?_; rintro e w7 ⟨rfl, rfl⟩)
      | fail)
  have BEL := Lib.hid (bel0.out.trans (bel6.mono bel0.out.size))
  clear HK belh bel5 hx0 hx1 bel0 HI HC HM
  go_wp2
  go_ret
  exact ⟨by rw [HB.out]; try rfl, BEL.out⟩
set_option maxHeartbeats 4000000 in
theorem within_any (pu pk pa pc pe : Int) (Pt : Option Addr) (pn pm : Nat) (tg : List Int) (t : Tg) (w : World) (hpa : 0 ≤ pa ∧ pa ≤ 65536) (hpc : 0 ≤ pc ∧ pc ≤ 65536) (hta : 0 ≤ t.ad ∧ t.ad ≤ 65536) :
    Calls Tryz.prog 26 #[tgV t, .agg #[.int .i64 pu, .int .i64 pk, .int .i64 pa, .int .i64 pc, .int .i64 pe, .slice Pt pn pm]] w fun e w' => e = .returned (.bool (inP t pu pk pa pc)) ∧ Below w.heap.size w w' := by
  have hx0 := two_fst w (.cells (tgC t).toArray 51) (.cells #[.int .i64 pu, .int .i64 pk, .int .i64 pa, .int .i64 pc, .int .i64 pe, .slice Pt pn pm] 25)
  have hx1 := heap_alloc_two w (.cells (tgC t).toArray 51) (.cells #[.int .i64 pu, .int .i64 pk, .int .i64 pa, .int .i64 pc, .int .i64 pe, .slice Pt pn pm] 25)
  have bel0 := Lib.hid ((bel_alloc w (.cells (tgC t).toArray 51)).alloc (by simp) (.cells #[.int .i64 pu, .int .i64 pk, .int .i64 pa, .int .i64 pc, .int .i64 pe, .slice Pt pn pm] 25))
  have HI : Hid (∀ W : World, Calls Tryz.prog 51 #[tgV t, .agg #[.int .i64 pu, .int .i64 pk, .int .i64 pa, .int .i64 pc, .int .i64 pe, .slice Pt pn pm]] W fun e w' => e = .returned (.bool (bankB t pu pk)) ∧ Below W.heap.size W w') := Lib.hid fun W => inBank_any pu pk pa pc pe Pt pn pm t W
  have HC : Hid (∀ W : World, Calls Tryz.prog 49 #[tgV t, .agg #[.int .i64 pu, .int .i64 pk, .int .i64 pa, .int .i64 pc, .int .i64 pe, .slice Pt pn pm]] W fun e w' => e = .returned (.int .i64 (cntJ ⟨pu, pk, pa, pc, pe, tg⟩ t)) ∧ Below W.heap.size W w') := Lib.hid fun W => count10_any pu pk pa pc pe Pt pn pm tg t W hpa hpc hta
  have HM : Hid (∀ W : World, Calls Tryz.prog 75 #[.int .i64 pk] W fun e w' => e = .returned (.int .i64 (mostK pk)) ∧ w' = W) := Lib.hid fun W => most_any pk W
  have HK0 : Hid (∀ w9 : World, Below ((w.alloc (.cells (tgC t).toArray 51)).alloc (.cells #[.int .i64 pu, .int .i64 pk, .int .i64 pa, .int .i64 pc, .int .i64 pe, .slice Pt pn pm] 25)).heap.size ((w.alloc (.cells (tgC t).toArray 51)).alloc (.cells #[.int .i64 pu, .int .i64 pk, .int .i64 pa, .int .i64 pc, .int .i64 pe, .slice Pt pn pm] 25)) w9 → (Below ((w.alloc (.cells (tgC t).toArray 51)).alloc (.cells #[.int .i64 pu, .int .i64 pk, .int .i64 pa, .int .i64 pc, .int .i64 pe, .slice Pt pn pm] 25)).heap.size ((w.alloc (.cells (tgC t).toArray 51)).alloc (.cells #[.int .i64 pu, .int .i64 pk, .int .i64 pa, .int .i64 pc, .int .i64 pe, .slice Pt pn pm] 25)) w9 ∧ (w9.cell? ⟨w.heap.size, 3, none⟩ = some (.int .i64 t.ad) ∧ w9.cell? ⟨w.heap.size, 4, none⟩ = some (.int .i64 t.ev)) ∧ (ldTag (.pointer (some ⟨w.heap.size, 0, none⟩))).run Tryz.prog w9 = .ok (tgV t) w9 ∧ (w9.cell? ⟨w.heap.size + 1, 0, none⟩ = some (.int .i64 pu) ∧ w9.cell? ⟨w.heap.size + 1, 1, none⟩ = some (.int .i64 pk) ∧ w9.cell? ⟨w.heap.size + 1, 2, none⟩ = some (.int .i64 pa) ∧ w9.cell? ⟨w.heap.size + 1, 3, none⟩ = some (.int .i64 pc) ∧ w9.cell? ⟨w.heap.size + 1, 4, none⟩ = some (.int .i64 pe) ∧ w9.cell? ⟨w.heap.size + 1, 5, none⟩ = some (.slice Pt pn pm)))) := Lib.hid fun w9 hw => ⟨hw, (tgBox (keepB hw hx0)).2.2.2, tgBox_ld (keepB hw hx0), of6 (keepB hw hx1)⟩
  by_cases h1 : t.un = pu ∧ t.ki = pk
  case neg =>
    have HB : Hid (inP t pu pk pa pc = false) := Lib.hid (inP_no (fun h => h1 ⟨h.1, h.2.1⟩))
    rw [bankB_no h1] at HI
    clear h1
    go_enter Tryz.func26, Tryz.ntmps26
    go_wp2
    have HK := HK0
    clear HK0
    generalize ((w.alloc (.cells (tgC t).toArray 51)).alloc (.cells #[.int .i64 pu, .int .i64 pk, .int .i64 pa, .int .i64 pc, .int .i64 pe, .slice Pt pn pm] 25)) = w0 at *
    refine wp_region_held_drew (S := (fun w9 => Below w0.heap.size w0 w9 ∧ (w9.cell? ⟨w.heap.size, 3, none⟩ = some (.int .i64 t.ad) ∧ w9.cell? ⟨w.heap.size, 4, none⟩ = some (.int .i64 t.ev)) ∧ (ldTag (.pointer (some ⟨w.heap.size, 0, none⟩))).run Tryz.prog w9 = .ok (tgV t) w9 ∧ (w9.cell? ⟨w.heap.size + 1, 0, none⟩ = some (.int .i64 pu) ∧ w9.cell? ⟨w.heap.size + 1, 1, none⟩ = some (.int .i64 pk) ∧ w9.cell? ⟨w.heap.size + 1, 2, none⟩ = some (.int .i64 pa) ∧ w9.cell? ⟨w.heap.size + 1, 3, none⟩ = some (.int .i64 pc) ∧ w9.cell? ⟨w.heap.size + 1, 4, none⟩ = some (.int .i64 pe) ∧ w9.cell? ⟨w.heap.size + 1, 5, none⟩ = some (.slice Pt pn pm)))) (by kernel_rfl) (HK.out _ (below_drew (Below.refl _ _))) (fun hHeld => ?_)
    refine wpAnyH_take (i := 0) (oi := { dst := some 5, op := Op.load 51 (Operand.tmp 2), type := 51, pos := "plan.go:83", after := #[], guard := none }) (v := ?v91) rfl (by kernel_rfl) (by kernel_rfl) (by kernel_rfl) (fun _ _ _ h => h) (Or.inl ⟨by rfl, ?hy91⟩) (by assumption) ?rest91
    case hy91 => (intro w' hSw; (try dsimp only at hSw); go_simp; try with_reducible rfl)
    simp only [Act.put, List.setIfInBounds_toArray, List.set_cons_zero, List.set_cons_succ]
    refine wpAnyH_take (i := 1) (oi := { dst := some 6, op := Op.load 25 (Operand.tmp 3), type := 25, pos := "plan.go:83", after := #[], guard := none }) (v := ?v92) rfl (by kernel_rfl) (by kernel_rfl) (by kernel_rfl) (fun _ _ _ h => h) (Or.inl ⟨by rfl, ?hy92⟩) (by assumption) ?rest92
    case hy92 => (intro w' hSw; (try dsimp only at hSw); go_simp; try with_reducible rfl)
    simp only [Act.put, List.setIfInBounds_toArray, List.set_cons_zero, List.set_cons_succ]
    refine wpAnyH_ready (rs := [2]) (by kernel_rfl) (by simp) ?_
    refine AllReadyH.cons (o := { dst := some 7, op := Op.call { callee := Callee.value (Operand.func 51), args := #[Operand.tmp 5, Operand.tmp 6], argTypes := #[51, 25] }, type := 4, pos := "plan.go:83", after := #[{ on := 0, ground := Ground.data }, { on := 1, ground := Ground.data }], guard := none }) rfl (fun K hK => ?_) AllReadyH.nil
    go_simp
    go_at_call 51
    refine (HI.out _).mono ?_
    rintro e w5 ⟨rfl, b5⟩
    have bel5 : Below w0.heap.size w0 w5 := Below.trans (below_drew (Below.refl _ _)) (b5.mono (by simp))
    refine hK.out _ _ (HK.out _ bel5) (fun hHeld => ?_)
    clear hK K
    (try simp only [Act.put, List.setIfInBounds_toArray, List.set_cons_zero, List.set_cons_succ])
    refine wpAnyH_take (i := 3) (oi := { dst := some 8, op := Op.move (Operand.tmp 7), type := 4, pos := "plan.go:83", after := #[{ on := 2, ground := Ground.data }, { on := 2, ground := Ground.chain }], guard := none }) (v := ?v93) rfl (by kernel_rfl) (by kernel_rfl) (by kernel_rfl) (fun _ _ _ h => h) (Or.inl ⟨by rfl, ?hy93⟩) (by assumption) ?rest93
    case hy93 => (intro w' hSw; (try dsimp only at hSw); go_simp; try with_reducible rfl)
    simp only [Act.put, List.setIfInBounds_toArray, List.set_cons_zero, List.set_cons_succ]
    refine wpAnyH_take (i := 4) (oi := { dst := some 9, op := Op.fieldAddr 51 (Operand.tmp 2) 3, type := 0, pos := "plan.go:83", after := #[{ on := 3, ground := Ground.guard }], guard := some (3, true) }) (v := undef) rfl (by kernel_rfl) (by kernel_rfl) (by kernel_rfl) (fun _ _ _ h => h) (Or.inr ⟨by rfl, rfl⟩) (by assumption) ?_
    simp only [Act.put, List.setIfInBounds_toArray, List.set_cons_zero, List.set_cons_succ]
    refine wpAnyH_take (i := 5) (oi := { dst := some 10, op := Op.load 3 (Operand.tmp 9), type := 3, pos := "plan.go:83", after := #[{ on := 4, ground := Ground.data }, { on := 3, ground := Ground.guard }], guard := some (3, true) }) (v := undef) rfl (by kernel_rfl) (by kernel_rfl) (by kernel_rfl) (fun _ _ _ h => h) (Or.inr ⟨by rfl, rfl⟩) (by assumption) ?_
    simp only [Act.put, List.setIfInBounds_toArray, List.set_cons_zero, List.set_cons_succ]
    refine wpAnyH_take (i := 6) (oi := { dst := some 11, op := Op.fieldAddr 25 (Operand.tmp 3) 2, type := 0, pos := "plan.go:83", after := #[{ on := 3, ground := Ground.guard }], guard := some (3, true) }) (v := undef) rfl (by kernel_rfl) (by kernel_rfl) (by kernel_rfl) (fun _ _ _ h => h) (Or.inr ⟨by rfl, rfl⟩) (by assumption) ?_
    simp only [Act.put, List.setIfInBounds_toArray, List.set_cons_zero, List.set_cons_succ]
    refine wpAnyH_take (i := 7) (oi := { dst := some 12, op := Op.load 3 (Operand.tmp 11), type := 3, pos := "plan.go:83", after := #[{ on := 6, ground := Ground.data }, { on := 3, ground := Ground.guard }], guard := some (3, true) }) (v := undef) rfl (by kernel_rfl) (by kernel_rfl) (by kernel_rfl) (fun _ _ _ h => h) (Or.inr ⟨by rfl, rfl⟩) (by assumption) ?_
    simp only [Act.put, List.setIfInBounds_toArray, List.set_cons_zero, List.set_cons_succ]
    refine wpAnyH_take (i := 8) (oi := { dst := some 13, op := Op.binOp BinOp.geq 3 (Operand.tmp 10) (Operand.tmp 12) 3, type := 4, pos := "plan.go:83", after := #[{ on := 5, ground := Ground.data }, { on := 7, ground := Ground.data }, { on := 3, ground := Ground.guard }], guard := some (3, true) }) (v := undef) rfl (by kernel_rfl) (by kernel_rfl) (by kernel_rfl) (fun _ _ _ h => h) (Or.inr ⟨by rfl, rfl⟩) (by assumption) ?_
    simp only [Act.put, List.setIfInBounds_toArray, List.set_cons_zero, List.set_cons_succ]
    refine wpAnyH_take (i := 9) (oi := { dst := some 14, op := Op.pick (Operand.tmp 8) (Operand.tmp 13) (Operand.const (Value.bool false)), type := 4, pos := "plan.go:83", after := #[{ on := 3, ground := Ground.data }, { on := 8, ground := Ground.data }], guard := none }) (v := ?v99) rfl (by kernel_rfl) (by kernel_rfl) (by kernel_rfl) (fun _ _ _ h => h) (Or.inl ⟨by rfl, ?hy99⟩) (by assumption) ?rest99
    case hy99 => (intro w' hSw; (try dsimp only at hSw); go_simp; try with_reducible rfl)
    simp only [Act.put, List.setIfInBounds_toArray, List.set_cons_zero, List.set_cons_succ]
    refine wpAnyH_take (i := 10) (oi := { dst := some 15, op := Op.move (Operand.tmp 14), type := 4, pos := "plan.go:83", after := #[{ on := 9, ground := Ground.data }, { on := 3, ground := Ground.chain }], guard := none }) (v := ?v100) rfl (by kernel_rfl) (by kernel_rfl) (by kernel_rfl) (fun _ _ _ h => h) (Or.inl ⟨by rfl, ?hy100⟩) (by assumption) ?rest100
    case hy100 => (intro w' hSw; (try dsimp only at hSw); go_simp; try with_reducible rfl)
    simp only [Act.put, List.setIfInBounds_toArray, List.set_cons_zero, List.set_cons_succ]
    refine wpAnyH_take (i := 11) (oi := { dst := some 16, op := Op.load 51 (Operand.tmp 2), type := 51, pos := "plan.go:83", after := #[{ on := 10, ground := Ground.guard }], guard := some (10, true) }) (v := undef) rfl (by kernel_rfl) (by kernel_rfl) (by kernel_rfl) (fun _ _ _ h => h) (Or.inr ⟨by rfl, rfl⟩) (by assumption) ?_
    simp only [Act.put, List.setIfInBounds_toArray, List.set_cons_zero, List.set_cons_succ]
    refine wpAnyH_take (i := 12) (oi := { dst := some 17, op := Op.load 25 (Operand.tmp 3), type := 25, pos := "plan.go:83", after := #[{ on := 10, ground := Ground.guard }], guard := some (10, true) }) (v := undef) rfl (by kernel_rfl) (by kernel_rfl) (by kernel_rfl) (fun _ _ _ h => h) (Or.inr ⟨by rfl, rfl⟩) (by assumption) ?_
    simp only [Act.put, List.setIfInBounds_toArray, List.set_cons_zero, List.set_cons_succ]
    refine wpAnyH_take (i := 13) (oi := { dst := some 18, op := Op.call { callee := Callee.value (Operand.func 49), args := #[Operand.tmp 16, Operand.tmp 17], argTypes := #[51, 25] }, type := 3, pos := "plan.go:83", after := #[{ on := 11, ground := Ground.data }, { on := 12, ground := Ground.data }, { on := 10, ground := Ground.chain }, { on := 10, ground := Ground.guard }], guard := some (10, true) }) (v := undef) rfl (by kernel_rfl) (by kernel_rfl) (by kernel_rfl) (fun _ _ _ h => h) (Or.inr ⟨by rfl, rfl⟩) (by assumption) ?_
    simp only [Act.put, List.setIfInBounds_toArray, List.set_cons_zero, List.set_cons_succ]
    refine wpAnyH_take (i := 14) (oi := { dst := some 19, op := Op.fieldAddr 25 (Operand.tmp 3) 3, type := 0, pos := "plan.go:83", after := #[{ on := 10, ground := Ground.guard }], guard := some (10, true) }) (v := undef) rfl (by kernel_rfl) (by kernel_rfl) (by kernel_rfl) (fun _ _ _ h => h) (Or.inr ⟨by rfl, rfl⟩) (by assumption) ?_
    simp only [Act.put, List.setIfInBounds_toArray, List.set_cons_zero, List.set_cons_succ]
    refine wpAnyH_take (i := 15) (oi := { dst := some 20, op := Op.load 3 (Operand.tmp 19), type := 3, pos := "plan.go:83", after := #[{ on := 14, ground := Ground.data }, { on := 10, ground := Ground.guard }], guard := some (10, true) }) (v := undef) rfl (by kernel_rfl) (by kernel_rfl) (by kernel_rfl) (fun _ _ _ h => h) (Or.inr ⟨by rfl, rfl⟩) (by assumption) ?_
    simp only [Act.put, List.setIfInBounds_toArray, List.set_cons_zero, List.set_cons_succ]
    refine wpAnyH_take (i := 16) (oi := { dst := some 21, op := Op.binOp BinOp.eql 3 (Operand.tmp 18) (Operand.tmp 20) 3, type := 4, pos := "plan.go:83", after := #[{ on := 13, ground := Ground.data }, { on := 15, ground := Ground.data }, { on := 10, ground := Ground.guard }], guard := some (10, true) }) (v := undef) rfl (by kernel_rfl) (by kernel_rfl) (by kernel_rfl) (fun _ _ _ h => h) (Or.inr ⟨by rfl, rfl⟩) (by assumption) ?_
    simp only [Act.put, List.setIfInBounds_toArray, List.set_cons_zero, List.set_cons_succ]
    refine wpAnyH_take (i := 17) (oi := { dst := some 22, op := Op.pick (Operand.tmp 15) (Operand.tmp 21) (Operand.const (Value.bool false)), type := 4, pos := "plan.go:83", after := #[{ on := 10, ground := Ground.data }, { on := 16, ground := Ground.data }], guard := none }) (v := ?v107) rfl (by kernel_rfl) (by kernel_rfl) (by kernel_rfl) (fun _ _ _ h => h) (Or.inl ⟨by rfl, ?hy107⟩) (by assumption) ?rest107
    case hy107 => (intro w' hSw; (try dsimp only at hSw); go_simp; try with_reducible rfl)
    simp only [Act.put, List.setIfInBounds_toArray, List.set_cons_zero, List.set_cons_succ]
    refine wpAnyH_take (i := 18) (oi := { dst := some 4, op := Op.assign (Operand.tmp 22), type := 4, pos := "plan.go:83", after := #[{ on := 17, ground := Ground.data }, { on := 13, ground := Ground.chain }, { on := 0, ground := Ground.phase }, { on := 1, ground := Ground.phase }, { on := 2, ground := Ground.phase }, { on := 3, ground := Ground.phase }, { on := 4, ground := Ground.phase }, { on := 5, ground := Ground.phase }, { on := 6, ground := Ground.phase }, { on := 7, ground := Ground.phase }, { on := 8, ground := Ground.phase }, { on := 9, ground := Ground.phase }, { on := 10, ground := Ground.phase }, { on := 11, ground := Ground.phase }, { on := 12, ground := Ground.phase }, { on := 13, ground := Ground.phase }, { on := 14, ground := Ground.phase }, { on := 15, ground := Ground.phase }, { on := 16, ground := Ground.phase }, { on := 17, ground := Ground.phase }], guard := none }) (v := ?v108) rfl (by kernel_rfl) (by kernel_rfl) (by kernel_rfl) (fun _ _ _ h => h) (Or.inl ⟨by rfl, ?hy108⟩) (by assumption) ?rest108
    case hy108 => (intro w' hSw; (try dsimp only at hSw); go_simp; try with_reducible rfl)
    simp only [Act.put, List.setIfInBounds_toArray, List.set_cons_zero, List.set_cons_succ]
    refine wpAnyH_done (by kernel_rfl) ?_ _
    have BEL := Lib.hid (bel0.out.trans (bel5.mono bel0.out.size))
    clear HK bel5 hx0 hx1 bel0 HI HC HM
    go_wp2
    go_ret
    exact ⟨by rw [HB.out]; try rfl, BEL.out⟩
  rw [bankB_yes h1.1 h1.2] at HI
  by_cases h3 : t.ad ≥ pa
  case neg =>
    have HB : Hid (inP t pu pk pa pc = false) := Lib.hid (inP_no (fun h => h3 h.2.2.1))
    have f2 : decide (t.ad ≥ pa) = false := decide_eq_false h3
    have f3 : decide (pa ≤ t.ad) = false := decide_eq_false h3
    clear h1
    go_enter Tryz.func26, Tryz.ntmps26
    go_wp2
    have HK := HK0
    clear HK0
    generalize ((w.alloc (.cells (tgC t).toArray 51)).alloc (.cells #[.int .i64 pu, .int .i64 pk, .int .i64 pa, .int .i64 pc, .int .i64 pe, .slice Pt pn pm] 25)) = w0 at *
    refine wp_region_held_drew (S := (fun w9 => Below w0.heap.size w0 w9 ∧ (w9.cell? ⟨w.heap.size, 3, none⟩ = some (.int .i64 t.ad) ∧ w9.cell? ⟨w.heap.size, 4, none⟩ = some (.int .i64 t.ev)) ∧ (ldTag (.pointer (some ⟨w.heap.size, 0, none⟩))).run Tryz.prog w9 = .ok (tgV t) w9 ∧ (w9.cell? ⟨w.heap.size + 1, 0, none⟩ = some (.int .i64 pu) ∧ w9.cell? ⟨w.heap.size + 1, 1, none⟩ = some (.int .i64 pk) ∧ w9.cell? ⟨w.heap.size + 1, 2, none⟩ = some (.int .i64 pa) ∧ w9.cell? ⟨w.heap.size + 1, 3, none⟩ = some (.int .i64 pc) ∧ w9.cell? ⟨w.heap.size + 1, 4, none⟩ = some (.int .i64 pe) ∧ w9.cell? ⟨w.heap.size + 1, 5, none⟩ = some (.slice Pt pn pm)))) (by kernel_rfl) (HK.out _ (below_drew (Below.refl _ _))) (fun hHeld => ?_)
    refine wpAnyH_take (i := 0) (oi := { dst := some 5, op := Op.load 51 (Operand.tmp 2), type := 51, pos := "plan.go:83", after := #[], guard := none }) (v := ?v109) rfl (by kernel_rfl) (by kernel_rfl) (by kernel_rfl) (fun _ _ _ h => h) (Or.inl ⟨by rfl, ?hy109⟩) (by assumption) ?rest109
    case hy109 => (intro w' hSw; (try dsimp only at hSw); go_simp; try with_reducible rfl)
    simp only [Act.put, List.setIfInBounds_toArray, List.set_cons_zero, List.set_cons_succ]
    refine wpAnyH_take (i := 1) (oi := { dst := some 6, op := Op.load 25 (Operand.tmp 3), type := 25, pos := "plan.go:83", after := #[], guard := none }) (v := ?v110) rfl (by kernel_rfl) (by kernel_rfl) (by kernel_rfl) (fun _ _ _ h => h) (Or.inl ⟨by rfl, ?hy110⟩) (by assumption) ?rest110
    case hy110 => (intro w' hSw; (try dsimp only at hSw); go_simp; try with_reducible rfl)
    simp only [Act.put, List.setIfInBounds_toArray, List.set_cons_zero, List.set_cons_succ]
    refine wpAnyH_ready (rs := [2]) (by kernel_rfl) (by simp) ?_
    refine AllReadyH.cons (o := { dst := some 7, op := Op.call { callee := Callee.value (Operand.func 51), args := #[Operand.tmp 5, Operand.tmp 6], argTypes := #[51, 25] }, type := 4, pos := "plan.go:83", after := #[{ on := 0, ground := Ground.data }, { on := 1, ground := Ground.data }], guard := none }) rfl (fun K hK => ?_) AllReadyH.nil
    go_simp
    go_at_call 51
    refine (HI.out _).mono ?_
    rintro e w5 ⟨rfl, b5⟩
    have bel5 : Below w0.heap.size w0 w5 := Below.trans (below_drew (Below.refl _ _)) (b5.mono (by simp))
    refine hK.out _ _ (HK.out _ bel5) (fun hHeld => ?_)
    clear hK K
    (try simp only [Act.put, List.setIfInBounds_toArray, List.set_cons_zero, List.set_cons_succ])
    refine wpAnyH_take (i := 3) (oi := { dst := some 8, op := Op.move (Operand.tmp 7), type := 4, pos := "plan.go:83", after := #[{ on := 2, ground := Ground.data }, { on := 2, ground := Ground.chain }], guard := none }) (v := ?v111) rfl (by kernel_rfl) (by kernel_rfl) (by kernel_rfl) (fun _ _ _ h => h) (Or.inl ⟨by rfl, ?hy111⟩) (by assumption) ?rest111
    case hy111 => (intro w' hSw; (try dsimp only at hSw); go_simp; try with_reducible rfl)
    simp only [Act.put, List.setIfInBounds_toArray, List.set_cons_zero, List.set_cons_succ]
    refine wpAnyH_take (i := 4) (oi := { dst := some 9, op := Op.fieldAddr 51 (Operand.tmp 2) 3, type := 0, pos := "plan.go:83", after := #[{ on := 3, ground := Ground.guard }], guard := some (3, true) }) (v := ?v112) rfl (by kernel_rfl) (by kernel_rfl) (by kernel_rfl) (fun _ _ _ h => h) (Or.inl ⟨by rfl, ?hy112⟩) (by assumption) ?rest112
    case hy112 => (intro w' hSw; (try dsimp only at hSw); go_simp; try with_reducible rfl)
    simp only [Act.put, List.setIfInBounds_toArray, List.set_cons_zero, List.set_cons_succ]
    refine wpAnyH_take (i := 5) (oi := { dst := some 10, op := Op.load 3 (Operand.tmp 9), type := 3, pos := "plan.go:83", after := #[{ on := 4, ground := Ground.data }, { on := 3, ground := Ground.guard }], guard := some (3, true) }) (v := ?v113) rfl (by kernel_rfl) (by kernel_rfl) (by kernel_rfl) (fun _ _ _ h => h) (Or.inl ⟨by rfl, ?hy113⟩) (by assumption) ?rest113
    case hy113 => (intro w' hSw; (try dsimp only at hSw); go_simp; try with_reducible rfl)
    simp only [Act.put, List.setIfInBounds_toArray, List.set_cons_zero, List.set_cons_succ]
    refine wpAnyH_take (i := 6) (oi := { dst := some 11, op := Op.fieldAddr 25 (Operand.tmp 3) 2, type := 0, pos := "plan.go:83", after := #[{ on := 3, ground := Ground.guard }], guard := some (3, true) }) (v := ?v114) rfl (by kernel_rfl) (by kernel_rfl) (by kernel_rfl) (fun _ _ _ h => h) (Or.inl ⟨by rfl, ?hy114⟩) (by assumption) ?rest114
    case hy114 => (intro w' hSw; (try dsimp only at hSw); go_simp; try with_reducible rfl)
    simp only [Act.put, List.setIfInBounds_toArray, List.set_cons_zero, List.set_cons_succ]
    refine wpAnyH_take (i := 7) (oi := { dst := some 12, op := Op.load 3 (Operand.tmp 11), type := 3, pos := "plan.go:83", after := #[{ on := 6, ground := Ground.data }, { on := 3, ground := Ground.guard }], guard := some (3, true) }) (v := ?v115) rfl (by kernel_rfl) (by kernel_rfl) (by kernel_rfl) (fun _ _ _ h => h) (Or.inl ⟨by rfl, ?hy115⟩) (by assumption) ?rest115
    case hy115 => (intro w' hSw; (try dsimp only at hSw); go_simp; try with_reducible rfl)
    simp only [Act.put, List.setIfInBounds_toArray, List.set_cons_zero, List.set_cons_succ]
    refine wpAnyH_take (i := 8) (oi := { dst := some 13, op := Op.binOp BinOp.geq 3 (Operand.tmp 10) (Operand.tmp 12) 3, type := 4, pos := "plan.go:83", after := #[{ on := 5, ground := Ground.data }, { on := 7, ground := Ground.data }, { on := 3, ground := Ground.guard }], guard := some (3, true) }) (v := ?v116) rfl (by kernel_rfl) (by kernel_rfl) (by kernel_rfl) (fun _ _ _ h => h) (Or.inl ⟨by rfl, ?hy116⟩) (by assumption) ?rest116
    case hy116 => (intro w' hSw; (try dsimp only at hSw); go_simp; try with_reducible rfl)
    simp only [Act.put, List.setIfInBounds_toArray, List.set_cons_zero, List.set_cons_succ]
    refine wpAnyH_take (i := 9) (oi := { dst := some 14, op := Op.pick (Operand.tmp 8) (Operand.tmp 13) (Operand.const (Value.bool false)), type := 4, pos := "plan.go:83", after := #[{ on := 3, ground := Ground.data }, { on := 8, ground := Ground.data }], guard := none }) (v := ?v117) rfl (by kernel_rfl) (by kernel_rfl) (by kernel_rfl) (fun _ _ _ h => h) (Or.inl ⟨by rfl, ?hy117⟩) (by assumption) ?rest117
    case hy117 => (intro w' hSw; (try dsimp only at hSw); go_simp; try with_reducible rfl)
    simp only [Act.put, List.setIfInBounds_toArray, List.set_cons_zero, List.set_cons_succ]
    refine wpAnyH_take (i := 10) (oi := { dst := some 15, op := Op.move (Operand.tmp 14), type := 4, pos := "plan.go:83", after := #[{ on := 9, ground := Ground.data }, { on := 3, ground := Ground.chain }], guard := none }) (v := ?v118) rfl (by kernel_rfl) (by kernel_rfl) (by kernel_rfl) (fun _ _ _ h => h) (Or.inl ⟨by rfl, ?hy118⟩) (by assumption) ?rest118
    case hy118 => (intro w' hSw; (try dsimp only at hSw); go_simp; try with_reducible rfl)
    simp only [Act.put, List.setIfInBounds_toArray, List.set_cons_zero, List.set_cons_succ]
    refine wpAnyH_take (i := 11) (oi := { dst := some 16, op := Op.load 51 (Operand.tmp 2), type := 51, pos := "plan.go:83", after := #[{ on := 10, ground := Ground.guard }], guard := some (10, true) }) (v := undef) rfl (by kernel_rfl) (by kernel_rfl) (by kernel_rfl) (fun _ _ _ h => h) (Or.inr ⟨by rfl, rfl⟩) (by assumption) ?_
    simp only [Act.put, List.setIfInBounds_toArray, List.set_cons_zero, List.set_cons_succ]
    refine wpAnyH_take (i := 12) (oi := { dst := some 17, op := Op.load 25 (Operand.tmp 3), type := 25, pos := "plan.go:83", after := #[{ on := 10, ground := Ground.guard }], guard := some (10, true) }) (v := undef) rfl (by kernel_rfl) (by kernel_rfl) (by kernel_rfl) (fun _ _ _ h => h) (Or.inr ⟨by rfl, rfl⟩) (by assumption) ?_
    simp only [Act.put, List.setIfInBounds_toArray, List.set_cons_zero, List.set_cons_succ]
    refine wpAnyH_take (i := 13) (oi := { dst := some 18, op := Op.call { callee := Callee.value (Operand.func 49), args := #[Operand.tmp 16, Operand.tmp 17], argTypes := #[51, 25] }, type := 3, pos := "plan.go:83", after := #[{ on := 11, ground := Ground.data }, { on := 12, ground := Ground.data }, { on := 10, ground := Ground.chain }, { on := 10, ground := Ground.guard }], guard := some (10, true) }) (v := undef) rfl (by kernel_rfl) (by kernel_rfl) (by kernel_rfl) (fun _ _ _ h => h) (Or.inr ⟨by rfl, rfl⟩) (by assumption) ?_
    simp only [Act.put, List.setIfInBounds_toArray, List.set_cons_zero, List.set_cons_succ]
    refine wpAnyH_take (i := 14) (oi := { dst := some 19, op := Op.fieldAddr 25 (Operand.tmp 3) 3, type := 0, pos := "plan.go:83", after := #[{ on := 10, ground := Ground.guard }], guard := some (10, true) }) (v := undef) rfl (by kernel_rfl) (by kernel_rfl) (by kernel_rfl) (fun _ _ _ h => h) (Or.inr ⟨by rfl, rfl⟩) (by assumption) ?_
    simp only [Act.put, List.setIfInBounds_toArray, List.set_cons_zero, List.set_cons_succ]
    refine wpAnyH_take (i := 15) (oi := { dst := some 20, op := Op.load 3 (Operand.tmp 19), type := 3, pos := "plan.go:83", after := #[{ on := 14, ground := Ground.data }, { on := 10, ground := Ground.guard }], guard := some (10, true) }) (v := undef) rfl (by kernel_rfl) (by kernel_rfl) (by kernel_rfl) (fun _ _ _ h => h) (Or.inr ⟨by rfl, rfl⟩) (by assumption) ?_
    simp only [Act.put, List.setIfInBounds_toArray, List.set_cons_zero, List.set_cons_succ]
    refine wpAnyH_take (i := 16) (oi := { dst := some 21, op := Op.binOp BinOp.eql 3 (Operand.tmp 18) (Operand.tmp 20) 3, type := 4, pos := "plan.go:83", after := #[{ on := 13, ground := Ground.data }, { on := 15, ground := Ground.data }, { on := 10, ground := Ground.guard }], guard := some (10, true) }) (v := undef) rfl (by kernel_rfl) (by kernel_rfl) (by kernel_rfl) (fun _ _ _ h => h) (Or.inr ⟨by rfl, rfl⟩) (by assumption) ?_
    simp only [Act.put, List.setIfInBounds_toArray, List.set_cons_zero, List.set_cons_succ]
    refine wpAnyH_take (i := 17) (oi := { dst := some 22, op := Op.pick (Operand.tmp 15) (Operand.tmp 21) (Operand.const (Value.bool false)), type := 4, pos := "plan.go:83", after := #[{ on := 10, ground := Ground.data }, { on := 16, ground := Ground.data }], guard := none }) (v := ?v125) rfl (by kernel_rfl) (by kernel_rfl) (by kernel_rfl) (fun _ _ _ h => h) (Or.inl ⟨by rfl, ?hy125⟩) (by assumption) ?rest125
    case hy125 => (intro w' hSw; (try dsimp only at hSw); go_simp; try with_reducible rfl)
    simp only [Act.put, List.setIfInBounds_toArray, List.set_cons_zero, List.set_cons_succ]
    refine wpAnyH_take (i := 18) (oi := { dst := some 4, op := Op.assign (Operand.tmp 22), type := 4, pos := "plan.go:83", after := #[{ on := 17, ground := Ground.data }, { on := 13, ground := Ground.chain }, { on := 0, ground := Ground.phase }, { on := 1, ground := Ground.phase }, { on := 2, ground := Ground.phase }, { on := 3, ground := Ground.phase }, { on := 4, ground := Ground.phase }, { on := 5, ground := Ground.phase }, { on := 6, ground := Ground.phase }, { on := 7, ground := Ground.phase }, { on := 8, ground := Ground.phase }, { on := 9, ground := Ground.phase }, { on := 10, ground := Ground.phase }, { on := 11, ground := Ground.phase }, { on := 12, ground := Ground.phase }, { on := 13, ground := Ground.phase }, { on := 14, ground := Ground.phase }, { on := 15, ground := Ground.phase }, { on := 16, ground := Ground.phase }, { on := 17, ground := Ground.phase }], guard := none }) (v := ?v126) rfl (by kernel_rfl) (by kernel_rfl) (by kernel_rfl) (fun _ _ _ h => h) (Or.inl ⟨by rfl, ?hy126⟩) (by assumption) ?rest126
    case hy126 => (intro w' hSw; (try dsimp only at hSw); go_simp; try with_reducible rfl)
    simp only [Act.put, List.setIfInBounds_toArray, List.set_cons_zero, List.set_cons_succ]
    refine wpAnyH_done (by kernel_rfl) ?_ _
    have BEL := Lib.hid (bel0.out.trans (bel5.mono bel0.out.size))
    clear HK bel5 hx0 hx1 bel0 HI HC HM
    go_wp2
    go_ret
    exact ⟨by rw [HB.out]; try rfl, BEL.out⟩
  have HB : Hid (inP t pu pk pa pc = (cntJ ⟨pu, pk, pa, pc, pe, tg⟩ t == pc)) := Lib.hid (by
    have hc : cntJ ⟨pu, pk, pa, pc, pe, tg⟩ t = pc ↔ t.ad + widT t ≤ pa + pc := by
      show (if t.ad + widT t - pa < pc then pc else t.ad + widT t - pa) = pc ↔ _
      split <;> omega
    unfold inP
    by_cases h4 : cntJ ⟨pu, pk, pa, pc, pe, tg⟩ t = pc
    · rw [decide_eq_true ⟨h1.1, h1.2, h3, hc.1 h4⟩]
      simp [h4]
    · rw [decide_eq_false (fun h => h4 (hc.2 h.2.2.2))]
      exact (beq_false_of_ne h4).symm)
  generalize cntJ ⟨pu, pk, pa, pc, pe, tg⟩ t = cn at *
  clear h1
  go_enter Tryz.func26, Tryz.ntmps26
  go_wp2
  have HK := HK0
  clear HK0
  generalize ((w.alloc (.cells (tgC t).toArray 51)).alloc (.cells #[.int .i64 pu, .int .i64 pk, .int .i64 pa, .int .i64 pc, .int .i64 pe, .slice Pt pn pm] 25)) = w0 at *
  have belh : ∀ w9 : World, (Below w0.heap.size w0 w9 ∧ (w9.cell? ⟨w.heap.size, 3, none⟩ = some (.int .i64 t.ad) ∧ w9.cell? ⟨w.heap.size, 4, none⟩ = some (.int .i64 t.ev)) ∧ (ldTag (.pointer (some ⟨w.heap.size, 0, none⟩))).run Tryz.prog w9 = .ok (tgV t) w9 ∧ (w9.cell? ⟨w.heap.size + 1, 0, none⟩ = some (.int .i64 pu) ∧ w9.cell? ⟨w.heap.size + 1, 1, none⟩ = some (.int .i64 pk) ∧ w9.cell? ⟨w.heap.size + 1, 2, none⟩ = some (.int .i64 pa) ∧ w9.cell? ⟨w.heap.size + 1, 3, none⟩ = some (.int .i64 pc) ∧ w9.cell? ⟨w.heap.size + 1, 4, none⟩ = some (.int .i64 pe) ∧ w9.cell? ⟨w.heap.size + 1, 5, none⟩ = some (.slice Pt pn pm))) → Below w0.heap.size w0 w9 := fun w9 h => h.1
  go_region_held3 (fun w9 => Below w0.heap.size w0 w9 ∧ (w9.cell? ⟨w.heap.size, 3, none⟩ = some (.int .i64 t.ad) ∧ w9.cell? ⟨w.heap.size, 4, none⟩ = some (.int .i64 t.ev)) ∧ (ldTag (.pointer (some ⟨w.heap.size, 0, none⟩))).run Tryz.prog w9 = .ok (tgV t) w9 ∧ (w9.cell? ⟨w.heap.size + 1, 0, none⟩ = some (.int .i64 pu) ∧ w9.cell? ⟨w.heap.size + 1, 1, none⟩ = some (.int .i64 pk) ∧ w9.cell? ⟨w.heap.size + 1, 2, none⟩ = some (.int .i64 pa) ∧ w9.cell? ⟨w.heap.size + 1, 3, none⟩ = some (.int .i64 pc) ∧ w9.cell? ⟨w.heap.size + 1, 4, none⟩ = some (.int .i64 pe) ∧ w9.cell? ⟨w.heap.size + 1, 5, none⟩ = some (.slice Pt pn pm)))
    ((refine HK.out _ ?_
      repeat' (first
        | with_reducible exact Below.refl _ _
        | with_reducible exact bel7
        | with_reducible exact bel6
        | with_reducible exact bel5
        | with_reducible exact belh _ (by assumption)
        | with_reducible apply below_drew
        | with_reducible apply below_drewN
        | fail)))
    (first
      | (go_at_call 51; have bh := belh _ (by assumption); refine (HI.out _).mono ?_; rintro e w5 ⟨rfl, b5⟩; have bel5 : Below w0.heap.size w0 w5 := Below.trans bh (b5.mono bh.size))
      | (go_at_call 49; have bh := belh _ (by assumption); refine (HC.out _).mono ?_; rintro e w6 ⟨rfl, b6⟩; have bel6 : Below w0.heap.size w0 w6 := Below.trans bh (b6.mono bh.size))
      | (go_at_call 75; refine (HM.out _).mono ?_; rintro e w7 ⟨rfl, rfl⟩)
      | fail)
  have BEL := Lib.hid (bel0.out.trans (bel6.mono bel0.out.size))
  clear HK belh bel5 hx0 hx1 bel0 HI HC HM
  go_wp2
  go_ret
  exact ⟨by rw [HB.out]; try rfl, BEL.out⟩
end Go.Proofs.YtcmbdhmhkfhjfaaGreat
namespace Go.Proofs.YtcmbdhmhkfhjfaaGreat
open Go.RowKit
set_option linter.unusedVariables false
set_option maxRecDepth 100000

set_option maxHeartbeats 1000000 in
theorem Ask10_any (pu pk pa pc pe : Int) (Pt : Option Addr) (pn pm : Nat) (w : World) : Calls Tryz.prog 43 #[.agg #[.int .i64 pu, .int .i64 pk, .int .i64 pa, .int .i64 pc, .int .i64 pe, .slice Pt pn pm]] w (AskedK w pk pa pc) := by
  have HP : Hid (∀ E k' a' c', askE pk pa pc = E → askN pk pa pc pk = k' → askN pk pa pc pa = a' → askN pk pa pc pc = c' → ∀ w', Below w.heap.size w w' → AskedK w pk pa pc (.returned (.tuple #[.agg #[.int .i64 k', .int .i64 a', .int .i64 c', .slice none 0 0, .slice none 0 0, .slice none 0 0], .int .i64 E])) w') :=
    Lib.hid (fun E k' a' c' e1 e2 e3 e4 w' hb => ⟨by rw [e1, e2, e3, e4], hb⟩)
  have bel2 := (bel_alloc w (.cells #[.int .i64 pu, .int .i64 pk, .int .i64 pa, .int .i64 pc, .int .i64 pe, .slice Pt pn pm] 25)).alloc (by simp) (.cells #[.int .i64 0, .int .i64 0, .int .i64 0, .slice none 0 0, .slice none 0 0, .slice none 0 0] 68)
  by_cases h1 : pk < 1
  · have HE : Hid (askE pk pa pc = 28) := Lib.hid (by unfold askE; rw [if_pos (.inl h1)])
    have HN : Hid (∀ x, askN pk pa pc x = 0) := Lib.hid (fun x => by unfold askN; rw [HE.out]; rfl)
    go_enter Tryz.func43, Tryz.ntmps43
    go_wp2
    (try simp only [Exit.inBlock, Exit.then])
    refine bodyPost_ret (v := .tuple #[.agg #[.int .i64 0, .int .i64 0, .int .i64 0, .slice none 0 0, .slice none 0 0, .slice none 0 0], .int .i64 28]) (by simp [results, Tryz.results43, go_sem, *]) rfl ?_
    exact HP.out _ _ _ _ HE.out (HN.out _) (HN.out _) (HN.out _) _ bel2
  by_cases h2 : pk > 4
  · have HE : Hid (askE pk pa pc = 28) := Lib.hid (by unfold askE; rw [if_pos (.inr h2)])
    have HN : Hid (∀ x, askN pk pa pc x = 0) := Lib.hid (fun x => by unfold askN; rw [HE.out]; rfl)
    go_enter Tryz.func43, Tryz.ntmps43
    go_wp2
    (try simp only [Exit.inBlock, Exit.then])
    refine bodyPost_ret (v := .tuple #[.agg #[.int .i64 0, .int .i64 0, .int .i64 0, .slice none 0 0, .slice none 0 0, .slice none 0 0], .int .i64 28]) (by simp [results, Tryz.results43, go_sem, *]) rfl ?_
    exact HP.out _ _ _ _ HE.out (HN.out _) (HN.out _) (HN.out _) _ bel2
  obtain ⟨E, hE⟩ : ∃ E, chkQ (reqK pk pa pc) = E := ⟨_, rfl⟩
  have HE : Hid (askE pk pa pc = E) := Lib.hid (by unfold askE; rw [if_neg (by omega)]; exact hE)
  have HC : Hid (∀ W : World, Calls Tryz.prog 67 #[.agg #[.int .i64 pk, .int .i64 pa, .int .i64 pc, .slice none 0 0, .slice none 0 0, .slice none 0 0]] W fun e w' => e = .returned (.int .i64 E) ∧ Below W.heap.size W w') := Lib.hid fun W =>
    (Check_any (reqK pk pa pc) none none none 0 0 0 0 0 0 W (asked_none _ _ _ _ _)).mono fun e w' h => ⟨by rw [h.1, chk_req, hE], h.2⟩
  clear hE
  have t3 := Box3.new w (.cells #[.int .i64 pu, .int .i64 pk, .int .i64 pa, .int .i64 pc, .int .i64 pe, .slice Pt pn pm] 25) (.cells #[.int .i64 0, .int .i64 0, .int .i64 0, .slice none 0 0, .slice none 0 0, .slice none 0 0] 68) (.cells #[.int .i64 pk, .int .i64 pa, .int .i64 pc, .slice none 0 0, .slice none 0 0, .slice none 0 0] 68)
  have hsu : (w.alloc (.cells #[.int .i64 pu, .int .i64 pk, .int .i64 pa, .int .i64 pc, .int .i64 pe, .slice Pt pn pm] 25)).heap.size = w.heap.size + 1 := by simp
  by_cases h0 : E = 0
  · subst h0
    have HN : Hid (∀ x, askN pk pa pc x = x) := Lib.hid (fun x => by unfold askN; rw [HE.out]; rfl)
    go_enter Tryz.func43, Tryz.ntmps43
    go_wp2_with fail
    refine (HC.out _).mono ?_
    rintro e w1 ⟨rfl, b1⟩
    have t4 := t3.below b1
    obtain ⟨c0, c1, c2, c3, c4, c5⟩ := of6 t4.2.1
    obtain ⟨d0, d1, d2, d3, d4, d5⟩ := of6 t4.2.2.1
    have hfz := fun i => block_frozen _ _ i _ _ t4.2.1
    have P4 := Lib.hid (below_put6 t4.bel (g := w.heap.size + 1) (by omega) (.int .i64 pk) (.int .i64 pa) (.int .i64 pc) (.slice none 0 0) (.slice none 0 0) (.slice none 0 0))
    have P5 := Lib.hid (put6_heap t4.2.1 (.int .i64 pk) (.int .i64 pa) (.int .i64 pc) (.slice none 0 0) (.slice none 0 0) (.slice none 0 0))
    clear t3 t4 b1 bel2
    go_wp2
    (try simp only [Exit.inBlock, Exit.then])
    show bodyPost _ _ _ _ _ (put6 w1 (w.heap.size + 1) (.int .i64 pk) (.int .i64 pa) (.int .i64 pc) (.slice none 0 0) (.slice none 0 0) (.slice none 0 0))
    generalize put6 w1 (w.heap.size + 1) (.int .i64 pk) (.int .i64 pa) (.int .i64 pc) (.slice none 0 0) (.slice none 0 0) (.slice none 0 0) = w6 at *
    clear c0 c1 c2 c3 c4 c5 hfz
    obtain ⟨g0, g1, g2, g3, g4, g5⟩ := of6 P5.out
    refine bodyPost_ret (v := .tuple #[.agg #[.int .i64 pk, .int .i64 pa, .int .i64 pc, .slice none 0 0, .slice none 0 0, .slice none 0 0], .int .i64 0]) (by simp [results, Tryz.results43, go_sem, g0, g1, g2, g3, g4, g5]) rfl ?_
    exact HP.out _ _ _ _ HE.out (HN.out _) (HN.out _) (HN.out _) _ P4.out
  · have HN : Hid (∀ x, askN pk pa pc x = 0) := Lib.hid (fun x => by unfold askN; rw [HE.out, if_neg h0])
    have e0 : (E == 0) = false := beq_false_of_ne h0
    have e0' : (E != 0) = true := by simpa using h0
    clear h0
    go_enter Tryz.func43, Tryz.ntmps43
    go_wp2_with fail
    refine (HC.out _).mono ?_
    rintro e w1 ⟨rfl, b1⟩
    have t4 := t3.below b1
    obtain ⟨c0, c1, c2, c3, c4, c5⟩ := of6 t4.2.1
    have hfz := fun i => block_frozen _ _ i _ _ t4.2.1
    have P4 := Lib.hid (below_put6 t4.bel (g := w.heap.size + 1) (by omega) (.int .i64 0) (.int .i64 0) (.int .i64 0) (.slice none 0 0) (.slice none 0 0) (.slice none 0 0))
    have P5 := Lib.hid (put6_heap t4.2.1 (.int .i64 0) (.int .i64 0) (.int .i64 0) (.slice none 0 0) (.slice none 0 0) (.slice none 0 0))
    clear t3 t4 b1 bel2
    go_wp2
    (try simp only [Exit.inBlock, Exit.then])
    show bodyPost _ _ _ _ _ (put6 w1 (w.heap.size + 1) (.int .i64 0) (.int .i64 0) (.int .i64 0) (.slice none 0 0) (.slice none 0 0) (.slice none 0 0))
    generalize put6 w1 (w.heap.size + 1) (.int .i64 0) (.int .i64 0) (.int .i64 0) (.slice none 0 0) (.slice none 0 0) (.slice none 0 0) = w6 at *
    clear c0 c1 c2 c3 c4 c5 hfz
    obtain ⟨g0, g1, g2, g3, g4, g5⟩ := of6 P5.out
    refine bodyPost_ret (v := .tuple #[.agg #[.int .i64 0, .int .i64 0, .int .i64 0, .slice none 0 0, .slice none 0 0, .slice none 0 0], .int .i64 E]) (by simp [results, Tryz.results43, go_sem, g0, g1, g2, g3, g4, g5]) rfl ?_
    exact HP.out _ _ _ _ HE.out (HN.out _) (HN.out _) (HN.out _) _ P4.out
end Go.Proofs.YtcmbdhmhkfhjfaaGreat
