/-
  one, known of layer 9's statements.
-/
import Derived.Test.YtmakegbkgiajdaaTgProg
import Derived.Test.YtmakegbkgiajdaaTgKit
namespace Go.Proofs.Ytmakegbkgiajdaa
open Go.RowKit
set_option linter.unusedVariables false
attribute [local go_sem ↓] ldTag_fold stTag_fold

/-- A right tag of a name. -/
def oneT (s : ByteArray) : Tg := ⟨s, 1, 3, 0, 1, false, false, false, 1, 1, 0, 0, 0, false, false, false, 0, 0, 0⟩
theorem oneT_ok {s : ByteArray} (h : s.size ≤ maxLen) : Tg.Ok (oneT s) := by
  refine ⟨h, ?_, ?_, ?_, ?_⟩ <;> simp [oneT]
theorem results_cell {P : Program} {fn : Func} {tmps : Array Value} {k : Nat} {ty : TypeId} {a : Addr} {v : Value} {w : World} (hf : fn.results = #[.cell k ty]) (ht : tmps[k]?.getD undef = .pointer (some a)) (hl : (loadVar ty a).run P w = .ok v w) : (results fn tmps).run P w = .ok v w := by
  simp [results, hf, ht, asAddr, hl]
set_option maxHeartbeats 1000000 in
theorem one_any (s : ByteArray) (w : World) : Calls Try.prog 22 #[.string s] w fun e w' => e = .returned (tgV (oneT s)) ∧ w' = w.alloc (.cells (tgC (oneT s)).toArray 29) := by
  have hst := stTag_run (w := w.alloc (.cells (tgC zT).toArray 29)) (o := 0) (oneT s) (there_alloc_size w 29 (tgC zT).toArray 0 19 (Nat.le_refl _))
  rw [setCells_alloc, setL_whole (tgC zT).toArray (tgC (oneT s)) rfl] at hst
  have hx := heap_alloc_new w (.cells (tgC (oneT s)).toArray 29)
  simp only [tgV, tgC, zT, oneT] at hst hx ⊢
  go_enter Try.func22, Try.ntmps22
  go_wp2
  (try simp only [Exit.inBlock, Exit.then])
  have hld := run_loadVar_mid (P := Try.prog) (w.alloc (.cells #[.string s, .int .i64 1, .int .i64 3, .int .i64 0, .int .i64 1, .bool false, .bool false, .bool false, .int .i64 1, .int .i64 1, .int .i64 0, .int .i64 0, .int .i64 0, .bool false, .bool false, .bool false, .int .i64 0, .int .i64 0, .int .i64 0] 29)) w.heap.size 0 29 _ _ (rangeB hx) Try.underlying29 rfl size_tag
  clear hst hx
  refine bodyPost_ret (v := .agg #[.string s, .int .i64 1, .int .i64 3, .int .i64 0, .int .i64 1, .bool false, .bool false, .bool false, .int .i64 1, .int .i64 1, .int .i64 0, .int .i64 0, .int .i64 0, .bool false, .bool false, .bool false, .int .i64 0, .int .i64 0, .int .i64 0]) (results_cell Try.results22 rfl hld) rfl ?_
  exact ⟨rfl, rfl⟩
def sA : ByteArray := ⟨#[97]⟩
def sB : ByteArray := ⟨#[98]⟩
theorem chk_ab : chkAll [oneT sA, oneT sB] = (0, 0) := by decide +kernel
theorem chk_abb : chkAll [oneT sA, oneT sB, oneT sB] = (7, 2) := by decide +kernel
set_option maxHeartbeats 2000000 in
theorem known9_yes (w : World) : Calls Try.prog 21 #[] w fun e w' => e = .returned (.bool true) ∧ Below w.heap.size w w' := by
  have H1 : ∀ s : ByteArray, Hid (∀ W, Calls Try.prog 22 #[.string s] W fun e w' => e = .returned (tgV (oneT s)) ∧ Below W.heap.size W w') := fun s => Lib.hid fun W => (one_any s W).mono fun e w' h => ⟨h.1, by rw [h.2]; exact bel_alloc _ _⟩
  have hmake : ∀ (W : World) (a b : ByteArray), VRow (W.alloc (.cells (flatV tgC [oneT a, oneT b]).toArray 29)) (W.alloc (.cells (flatV tgC [oneT a, oneT b]).toArray 29)).heap.size (some ⟨W.heap.size, 0, none⟩) (flatV tgC [oneT a, oneT b]) := fun W a b => VRow.new _ _ _
  go_enter Try.func21, Try.ntmps21
  go_wp2_with fail
  refine ((H1 _).out _).mono ?_
  rintro e w1 ⟨rfl, bel1⟩
  go_wp2_with fail
  refine ((H1 _).out _).mono ?_
  rintro e w2 ⟨rfl, b2⟩
  have bel2 := bel1.trans (b2.mono bel1.size)
  clear b2 bel1
  simp only [tgV, tgC, oneT]
  go_wp2_with fail
  refine (CheckAll9_any _ 2 2 [oneT sA, oneT sB] _ (VRow.new w2 29 (flatV tgC [oneT sA, oneT sB])) rfl (by omega) (fun t ht => by
    simp only [List.mem_cons, List.not_mem_nil, or_false] at ht
    rcases ht with rfl | rfl <;> exact oneT_ok (by decide))).mono ?_
  rintro e w3 ⟨rfl, b3⟩
  rw [chk_ab]
  have bel3 := bel2.trans ((balB (Below.refl _ _) _).trans (b3.mono (by simp)) |>.mono bel2.size)
  clear b3 bel2
  go_wp2_with fail
  refine ((H1 _).out _).mono ?_
  rintro e w4 ⟨rfl, b4⟩
  have bel4 := bel3.trans (b4.mono bel3.size)
  clear b4 bel3
  go_wp2_with fail
  refine ((H1 _).out _).mono ?_
  rintro e w5 ⟨rfl, b5⟩
  have bel5 := bel4.trans (b5.mono bel4.size)
  clear b5 bel4
  go_wp2_with fail
  refine ((H1 _).out _).mono ?_
  rintro e w6 ⟨rfl, b6⟩
  have bel6 := bel5.trans (b6.mono bel5.size)
  clear b6 bel5
  simp only [tgV, tgC, oneT]
  go_wp2_with fail
  refine (CheckAll9_any _ 3 3 [oneT sA, oneT sB, oneT sB] _ (VRow.new w6 29 (flatV tgC [oneT sA, oneT sB, oneT sB])) rfl (by omega) (fun t ht => by
    simp only [List.mem_cons, List.not_mem_nil, or_false] at ht
    rcases ht with rfl | rfl | rfl <;> exact oneT_ok (by decide))).mono ?_
  rintro e w7 ⟨rfl, b7⟩
  rw [chk_abb]
  have bel7 := bel6.trans ((balB (Below.refl _ _) _).trans (b7.mono (by simp)) |>.mono bel6.size)
  clear b7 bel6
  go_wp2
  go_ret
  exact ⟨rfl, bel7⟩
end Go.Proofs.Ytmakegbkgiajdaa
