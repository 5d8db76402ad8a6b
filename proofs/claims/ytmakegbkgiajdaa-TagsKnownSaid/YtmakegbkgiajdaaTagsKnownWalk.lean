/-
  The walk of TagsKnown.
-/
import Derived.Test.YtmakegbkgiajdaaTgKnown
import Derived.Test.YtmakegbkgiajdaaTgRise
import Derived.Test.YtmakegbkgiajdaaTgOwn
import Derived.Laws.BytesArg
import Derived.Deep.CutRange
import Derived.Deep.RegionHeld3
namespace Go.Proofs.Ytmakegbkgiajdaa
open Go.RowKit
set_option linter.unusedVariables false
attribute [local go_sem ↓] ldTag_fold stTag_fold

/-- A list of tags is laid in one step. -/
def bsTag (n : Nat) (ps : Array (Nat × Value)) : Sem Value := Instr.buildSlice 35 n ps
theorem bsTag_fold (n : Nat) (ps : Array (Nat × Value)) : Instr.buildSlice 35 n ps = bsTag n ps := rfl
theorem bs1 (s : ByteArray) (W : World) : (bsTag 1 #[(0, .agg #[.string s, .int .i64 1, .int .i64 3, .int .i64 0, .int .i64 1, .bool false, .bool false, .bool false, .int .i64 1, .int .i64 1, .int .i64 0, .int .i64 0, .int .i64 0, .bool false, .bool false, .bool false, .int .i64 0, .int .i64 0, .int .i64 0])]).run Try.prog W = .ok (.slice (some ⟨W.heap.size, 0, none⟩) 1 1) (W.alloc (.cells #[.string s, .int .i64 1, .int .i64 3, .int .i64 0, .int .i64 1, .bool false, .bool false, .bool false, .int .i64 1, .int .i64 1, .int .i64 0, .int .i64 0, .int .i64 0, .bool false, .bool false, .bool false, .int .i64 0, .int .i64 0, .int .i64 0] 29)) := by kernel_rfl
theorem bs2 (s s' : ByteArray) (W : World) : (bsTag 2 #[(0, .agg #[.string s, .int .i64 1, .int .i64 3, .int .i64 0, .int .i64 1, .bool false, .bool false, .bool false, .int .i64 1, .int .i64 1, .int .i64 0, .int .i64 0, .int .i64 0, .bool false, .bool false, .bool false, .int .i64 0, .int .i64 0, .int .i64 0]), (1, .agg #[.string s', .int .i64 1, .int .i64 3, .int .i64 0, .int .i64 1, .bool false, .bool false, .bool false, .int .i64 1, .int .i64 1, .int .i64 0, .int .i64 0, .int .i64 0, .bool false, .bool false, .bool false, .int .i64 0, .int .i64 0, .int .i64 0])]).run Try.prog W = .ok (.slice (some ⟨W.heap.size, 0, none⟩) 2 2) (W.alloc (.cells #[.string s, .int .i64 1, .int .i64 3, .int .i64 0, .int .i64 1, .bool false, .bool false, .bool false, .int .i64 1, .int .i64 1, .int .i64 0, .int .i64 0, .int .i64 0, .bool false, .bool false, .bool false, .int .i64 0, .int .i64 0, .int .i64 0, .string s', .int .i64 1, .int .i64 3, .int .i64 0, .int .i64 1, .bool false, .bool false, .bool false, .int .i64 1, .int .i64 1, .int .i64 0, .int .i64 0, .int .i64 0, .bool false, .bool false, .bool false, .int .i64 0, .int .i64 0, .int .i64 0] 29)) := by kernel_rfl
theorem bs9 (W : World) : (bsTag 9 #[(0, .agg #[.string ⟨#[116]⟩, .int .i64 1, .int .i64 3, .int .i64 0, .int .i64 1, .bool false, .bool false, .bool false, .int .i64 1, .int .i64 1, .int .i64 0, .int .i64 0, .int .i64 0, .bool false, .bool false, .bool false, .int .i64 0, .int .i64 0, .int .i64 0]), (1, .agg #[.string ⟨#[116]⟩, .int .i64 1, .int .i64 3, .int .i64 65535, .int .i64 1, .bool true, .bool false, .bool false, .int .i64 1, .int .i64 1, .int .i64 0, .int .i64 0, .int .i64 0, .bool false, .bool false, .bool false, .int .i64 0, .int .i64 0, .int .i64 0]), (2, .agg #[.string ⟨#[116]⟩, .int .i64 1, .int .i64 3, .int .i64 65534, .int .i64 1, .bool true, .bool false, .bool false, .int .i64 1, .int .i64 1, .int .i64 0, .int .i64 0, .int .i64 0, .bool false, .bool false, .bool false, .int .i64 0, .int .i64 0, .int .i64 0]), (3, .agg #[.string ⟨#[116]⟩, .int .i64 1, .int .i64 1, .int .i64 0, .int .i64 1, .bool false, .bool false, .bool false, .int .i64 2, .int .i64 1, .int .i64 0, .int .i64 0, .int .i64 0, .bool false, .bool false, .bool false, .int .i64 0, .int .i64 0, .int .i64 0]), (4, .agg #[.string ⟨#[116]⟩, .int .i64 248, .int .i64 3, .int .i64 0, .int .i64 1, .bool false, .bool false, .bool false, .int .i64 1, .int .i64 1, .int .i64 0, .int .i64 0, .int .i64 0, .bool false, .bool false, .bool false, .int .i64 0, .int .i64 0, .int .i64 0]), (5, .agg #[.string ⟨#[116]⟩, .int .i64 1, .int .i64 3, .int .i64 0, .int .i64 1048577, .bool false, .bool false, .bool false, .int .i64 1, .int .i64 1, .int .i64 0, .int .i64 0, .int .i64 0, .bool false, .bool false, .bool false, .int .i64 0, .int .i64 0, .int .i64 0]), (6, .agg #[.string ⟨#[116]⟩, .int .i64 1, .int .i64 3, .int .i64 0, .int .i64 1, .bool false, .bool false, .bool false, .int .i64 1, .int .i64 1, .int .i64 0, .int .i64 (-1), .int .i64 0, .bool false, .bool false, .bool false, .int .i64 0, .int .i64 0, .int .i64 0]), (7, .agg #[.string ⟨#[116]⟩, .int .i64 1, .int .i64 3, .int .i64 0, .int .i64 1, .bool false, .bool false, .bool false, .int .i64 1, .int .i64 1, .int .i64 0, .int .i64 0, .int .i64 0, .bool false, .bool false, .bool false, .int .i64 0, .int .i64 0, .int .i64 (-1)]), (8, .agg #[.string ⟨#[]⟩, .int .i64 0, .int .i64 0, .int .i64 0, .int .i64 0, .bool false, .bool false, .bool false, .int .i64 0, .int .i64 0, .int .i64 0, .int .i64 0, .int .i64 0, .bool false, .bool false, .bool false, .int .i64 0, .int .i64 0, .int .i64 0])]).run Try.prog W = .ok (.slice (some ⟨W.heap.size, 0, none⟩) 9 9) (W.alloc (.cells #[.string ⟨#[116]⟩, .int .i64 1, .int .i64 3, .int .i64 0, .int .i64 1, .bool false, .bool false, .bool false, .int .i64 1, .int .i64 1, .int .i64 0, .int .i64 0, .int .i64 0, .bool false, .bool false, .bool false, .int .i64 0, .int .i64 0, .int .i64 0, .string ⟨#[116]⟩, .int .i64 1, .int .i64 3, .int .i64 65535, .int .i64 1, .bool true, .bool false, .bool false, .int .i64 1, .int .i64 1, .int .i64 0, .int .i64 0, .int .i64 0, .bool false, .bool false, .bool false, .int .i64 0, .int .i64 0, .int .i64 0, .string ⟨#[116]⟩, .int .i64 1, .int .i64 3, .int .i64 65534, .int .i64 1, .bool true, .bool false, .bool false, .int .i64 1, .int .i64 1, .int .i64 0, .int .i64 0, .int .i64 0, .bool false, .bool false, .bool false, .int .i64 0, .int .i64 0, .int .i64 0, .string ⟨#[116]⟩, .int .i64 1, .int .i64 1, .int .i64 0, .int .i64 1, .bool false, .bool false, .bool false, .int .i64 2, .int .i64 1, .int .i64 0, .int .i64 0, .int .i64 0, .bool false, .bool false, .bool false, .int .i64 0, .int .i64 0, .int .i64 0, .string ⟨#[116]⟩, .int .i64 248, .int .i64 3, .int .i64 0, .int .i64 1, .bool false, .bool false, .bool false, .int .i64 1, .int .i64 1, .int .i64 0, .int .i64 0, .int .i64 0, .bool false, .bool false, .bool false, .int .i64 0, .int .i64 0, .int .i64 0, .string ⟨#[116]⟩, .int .i64 1, .int .i64 3, .int .i64 0, .int .i64 1048577, .bool false, .bool false, .bool false, .int .i64 1, .int .i64 1, .int .i64 0, .int .i64 0, .int .i64 0, .bool false, .bool false, .bool false, .int .i64 0, .int .i64 0, .int .i64 0, .string ⟨#[116]⟩, .int .i64 1, .int .i64 3, .int .i64 0, .int .i64 1, .bool false, .bool false, .bool false, .int .i64 1, .int .i64 1, .int .i64 0, .int .i64 (-1), .int .i64 0, .bool false, .bool false, .bool false, .int .i64 0, .int .i64 0, .int .i64 0, .string ⟨#[116]⟩, .int .i64 1, .int .i64 3, .int .i64 0, .int .i64 1, .bool false, .bool false, .bool false, .int .i64 1, .int .i64 1, .int .i64 0, .int .i64 0, .int .i64 0, .bool false, .bool false, .bool false, .int .i64 0, .int .i64 0, .int .i64 (-1), .string ⟨#[]⟩, .int .i64 0, .int .i64 0, .int .i64 0, .int .i64 0, .bool false, .bool false, .bool false, .int .i64 0, .int .i64 0, .int .i64 0, .int .i64 0, .int .i64 0, .bool false, .bool false, .bool false, .int .i64 0, .int .i64 0, .int .i64 0] 29)) := by kernel_rfl
attribute [local go_sem ↓] bsTag_fold
attribute [local go_sem] bs1 bs2 bs9
/-- A tag is stored into a new box. -/
theorem new_tag (w : World) (t : Tg) : (stTag (.pointer (some ⟨w.heap.size, 0, none⟩)) (tgV t)).run Try.prog (w.alloc (.cells (tgC zT).toArray 29)) = .ok () (w.alloc (.cells (tgC t).toArray 29)) := by
  have h := stTag_run (w := w.alloc (.cells (tgC zT).toArray 29)) (o := 0) t (there_alloc_size w 29 (tgC zT).toArray 0 19 (Nat.le_refl _))
  rw [setCells_alloc, setL_whole (tgC zT).toArray (tgC t) rfl] at h
  exact h
theorem Check9_t9 (t : Tg) (w : World) (hs : t.nm.size ≤ maxLen) : Calls Try.prog 13 #[tgV t] w fun e w' => e = .returned (.int .i64 (chkT t)) ∧ Below w.heap.size w w' := by
  obtain ⟨nm, un, ki, ad, ev, we, sg, sw, mu, di, aa, de, qu, ul, uh, la, lo, hi, hy⟩ := t
  exact Check9_any nm un ki ad ev we sg sw mu di aa de qu ul uh la lo hi hy w hs
def L9 : List Tg := [⟨⟨#[116]⟩, 1, 3, 0, 1, false, false, false, 1, 1, 0, 0, 0, false, false, false, 0, 0, 0⟩, ⟨⟨#[116]⟩, 1, 3, 65535, 1, true, false, false, 1, 1, 0, 0, 0, false, false, false, 0, 0, 0⟩, ⟨⟨#[116]⟩, 1, 3, 65534, 1, true, false, false, 1, 1, 0, 0, 0, false, false, false, 0, 0, 0⟩, ⟨⟨#[116]⟩, 1, 1, 0, 1, false, false, false, 2, 1, 0, 0, 0, false, false, false, 0, 0, 0⟩, ⟨⟨#[116]⟩, 248, 3, 0, 1, false, false, false, 1, 1, 0, 0, 0, false, false, false, 0, 0, 0⟩, ⟨⟨#[116]⟩, 1, 3, 0, 1048577, false, false, false, 1, 1, 0, 0, 0, false, false, false, 0, 0, 0⟩, ⟨⟨#[116]⟩, 1, 3, 0, 1, false, false, false, 1, 1, 0, (-1), 0, false, false, false, 0, 0, 0⟩, ⟨⟨#[116]⟩, 1, 3, 0, 1, false, false, false, 1, 1, 0, 0, 0, false, false, false, 0, 0, (-1)⟩, ⟨⟨#[]⟩, 0, 0, 0, 0, false, false, false, 0, 0, 0, 0, 0, false, false, false, 0, 0, 0⟩]
def N9 : List Int := [0, 21, 0, 25, 24, 3, 26, 27, 8]
theorem chk9 : L9.map chkT = N9 := by decide +kernel
theorem chk9_at (k : Nat) (h : k < L9.length) (h' : k < N9.length) : chkT L9[k] = N9[k] := by
  have e : (L9.map chkT)[k]? = N9[k]? := by rw [chk9]
  rw [List.getElem?_map, List.getElem?_eq_getElem h, List.getElem?_eq_getElem h'] at e
  exact Option.some.inj e
theorem L9_ok : ∀ t ∈ L9, Tg.Ok t := by
  intro t ht
  simp only [L9, List.mem_cons, List.not_mem_nil, or_false] at ht
  rcases ht with rfl | rfl | rfl | rfl | rfl | rfl | rfl | rfl | rfl <;> (refine ⟨by decide, ?_, ?_, ?_, ?_⟩ <;> simp)
theorem chk_ba : chkAll [oneT sB, oneT sA] = (29, 1) := by decide +kernel
def nmS (i : Nat) : ByteArray := ⟨#[97]⟩ ++ strOfNums [65 + (i : Int) / 26, 97 + (i : Int) % 26]
theorem nmS_size (i : Nat) : (nmS i).size ≤ maxLen := by
  have h : (nmS i).size = 3 := by
    unfold nmS
    rw [ByteArray.size_append, strOfNums_size]; rfl
  rw [h]; decide
def manyL (k : Nat) : List Tg := (List.range k).map fun i => oneT (nmS i)
theorem manyL_len (k : Nat) : (manyL k).length = k := by simp [manyL]
theorem manyL_succ (k : Nat) : manyL (k + 1) = manyL k ++ [oneT (nmS k)] := by simp [manyL, List.range_succ]
theorem manyL_take : (manyL 65).take 64 = manyL 64 := by rw [manyL, ← List.map_take, List.take_range]; rfl
theorem manyL_ok (k : Nat) : ∀ t ∈ manyL k, Tg.Ok t := by
  intro t ht
  obtain ⟨i, _, rfl⟩ := List.mem_map.1 ht
  exact oneT_ok (nmS_size i)
theorem chk65 : chkAll (manyL 65) = (34, 0) := chkAll_many (by rw [manyL_len]; omega)
theorem chk64 : chkAll (manyL 64) = (0, 0) := by decide +kernel
theorem find_b : findT [oneT sA, oneT sB] ⟨#[98]⟩ = 1 := by decide +kernel
theorem find_c : findT [oneT sA, oneT sB] ⟨#[99]⟩ = -1 := by decide +kernel
theorem one_bel (s : ByteArray) (w : World) : Calls Try.prog 22 #[.string s] w fun e w' => e = .returned (tgV (oneT s)) ∧ Below w.heap.size w w' :=
  (one_any s w).mono fun e w' h => ⟨h.1, by rw [h.2]; exact bel_alloc _ _⟩
set_option maxRecDepth 100000 in
set_option maxHeartbeats 8000000 in
theorem walk_TagsKnown (w : World) : Calls Try.prog 8 #[] w fun e w' => e = .returned (.bool true) ∧ Below w.heap.size w w' := by
  go_enter Try.func8, Try.ntmps8
  go_wp2_with fail
  refine (Name9_any _ _ (by decide)).mono ?_
  rintro e a0 ⟨rfl, ba0⟩
  rw [show nameB (bys (⟨#[97]⟩ : ByteArray)) = true from by decide +kernel]
  have bela0 := ba0
  go_wp2_with fail
  refine (Name9_any _ _ (by decide)).mono ?_
  rintro e a1 ⟨rfl, ba1⟩
  rw [show nameB (bys (⟨#[84, 97, 110, 107, 49, 46, 108, 101, 118, 101, 108, 45, 50, 95, 120]⟩ : ByteArray)) = true from by decide +kernel]
  have bela1 := bela0.trans (ba1.mono bela0.size)
  clear ba1 bela0
  go_wp2_with fail
  refine (Name9_any _ _ (by decide)).mono ?_
  rintro e a2 ⟨rfl, ba2⟩
  rw [show nameB (bys (⟨#[49, 97]⟩ : ByteArray)) = false from by decide +kernel]
  have bela2 := bela1.trans (ba2.mono bela1.size)
  clear ba2 bela1
  go_wp2_with fail
  refine (Name9_any _ _ (by decide)).mono ?_
  rintro e a3 ⟨rfl, ba3⟩
  rw [show nameB (bys (⟨#[]⟩ : ByteArray)) = false from by decide +kernel]
  have bela3 := bela2.trans (ba3.mono bela2.size)
  clear ba3 bela2
  go_wp2_with fail
  refine (Name9_any _ _ (by decide)).mono ?_
  rintro e a4 ⟨rfl, ba4⟩
  rw [show nameB (bys (⟨#[97, 98, 99, 100, 101, 102, 103, 104, 105, 106, 107, 108, 109, 110, 111, 112, 113]⟩ : ByteArray)) = false from by decide +kernel]
  have bela4 := bela3.trans (ba4.mono bela3.size)
  clear ba4 bela3
  go_wp2_with fail
  refine (Name9_any _ _ (by decide)).mono ?_
  rintro e a5 ⟨rfl, ba5⟩
  rw [show nameB (bys (⟨#[97, 98, 99, 100, 101, 102, 103, 104, 105, 106, 107, 108, 109, 110, 111, 112]⟩ : ByteArray)) = true from by decide +kernel]
  have bela5 := bela4.trans (ba5.mono bela4.size)
  clear ba5 bela4
  go_wp2_with fail
  refine (Name9_any _ _ (by decide)).mono ?_
  rintro e a6 ⟨rfl, ba6⟩
  rw [show nameB (bys (⟨#[97, 32, 98]⟩ : ByteArray)) = false from by decide +kernel]
  have bela6 := bela5.trans (ba6.mono bela5.size)
  clear ba6 bela5
  go_wp2_with fail
  refine (Name9_any _ _ (by decide)).mono ?_
  rintro e a7 ⟨rfl, ba7⟩
  rw [show nameB (bys (⟨#[95, 97]⟩ : ByteArray)) = false from by decide +kernel]
  have bela7 := bela6.trans (ba7.mono bela6.size)
  clear ba7 bela6
  go_wp2_with fail
  refine (Name9_any _ _ (by decide)).mono ?_
  rintro e a8 ⟨rfl, ba8⟩
  rw [show nameB (bys (⟨#[195, 169]⟩ : ByteArray)) = false from by decide +kernel]
  have bela8 := bela7.trans (ba8.mono bela7.size)
  clear ba8 bela7
  go_wp2_with fail
  refine (Name9_any _ _ (by decide)).mono ?_
  rintro e a9 ⟨rfl, ba9⟩
  rw [show nameB (bys (⟨#[97, 195, 169]⟩ : ByteArray)) = false from by decide +kernel]
  have bela9 := bela8.trans (ba9.mono bela8.size)
  clear ba9 bela8
  go_wp2_with fail
  refine (Name9_any _ _ (by decide)).mono ?_
  rintro e a10 ⟨rfl, ba10⟩
  rw [show nameB (bys (⟨#[97, 0]⟩ : ByteArray)) = false from by decide +kernel]
  have bela10 := bela9.trans (ba10.mono bela9.size)
  clear ba10 bela9
  go_wp2_with fail
  refine (one_bel _ _).mono ?_
  rintro e c1 ⟨rfl, bc1⟩
  simp only [tgV, tgC, oneT]
  have belc1 := bela10.trans (bc1.mono bela10.size)
  clear bc1 bela10
  have q1 := new_tag c1 (oneT ⟨#[116]⟩)
  have hxT := heap_alloc_new c1 (.cells #[.string ⟨#[116]⟩, .int .i64 1, .int .i64 3, .int .i64 65535, .int .i64 1, .bool true, .bool false, .bool false, .int .i64 1, .int .i64 1, .int .i64 0, .int .i64 0, .int .i64 0, .bool false, .bool false, .bool false, .int .i64 0, .int .i64 0, .int .i64 0] 29)
  have q2 := ldTag_run (cs := [.string ⟨#[116]⟩, .int .i64 1, .int .i64 3, .int .i64 65535, .int .i64 1, .bool true, .bool false, .bool false, .int .i64 1, .int .i64 1, .int .i64 0, .int .i64 0, .int .i64 0, .bool false, .bool false, .bool false, .int .i64 0, .int .i64 0, .int .i64 0]) rfl (rangeB hxT)
  have q3 := new_tag (c1.alloc (.cells #[.string ⟨#[116]⟩, .int .i64 1, .int .i64 3, .int .i64 65535, .int .i64 1, .bool true, .bool false, .bool false, .int .i64 1, .int .i64 1, .int .i64 0, .int .i64 0, .int .i64 0, .bool false, .bool false, .bool false, .int .i64 0, .int .i64 0, .int .i64 0] 29)) ⟨⟨#[116]⟩, 1, 3, 65535, 1, true, false, false, 1, 1, 0, 0, 0, false, false, false, 0, 0, 0⟩
  rw [show (c1.alloc (.cells #[.string ⟨#[116]⟩, .int .i64 1, .int .i64 3, .int .i64 65535, .int .i64 1, .bool true, .bool false, .bool false, .int .i64 1, .int .i64 1, .int .i64 0, .int .i64 0, .int .i64 0, .bool false, .bool false, .bool false, .int .i64 0, .int .i64 0, .int .i64 0] 29)).heap.size = c1.heap.size + 1 by simp] at q3
  simp only [tgV, tgC, oneT, zT] at q1 q3
  have hxU := heap_alloc_two c1 (.cells #[.string ⟨#[116]⟩, .int .i64 1, .int .i64 3, .int .i64 65535, .int .i64 1, .bool true, .bool false, .bool false, .int .i64 1, .int .i64 1, .int .i64 0, .int .i64 0, .int .i64 0, .bool false, .bool false, .bool false, .int .i64 0, .int .i64 0, .int .i64 0] 29) (.cells #[.string ⟨#[116]⟩, .int .i64 1, .int .i64 3, .int .i64 65534, .int .i64 1, .bool true, .bool false, .bool false, .int .i64 1, .int .i64 1, .int .i64 0, .int .i64 0, .int .i64 0, .bool false, .bool false, .bool false, .int .i64 0, .int .i64 0, .int .i64 0] 29)
  have hxT := (heap_alloc_old (c1.alloc (.cells #[.string ⟨#[116]⟩, .int .i64 1, .int .i64 3, .int .i64 65535, .int .i64 1, .bool true, .bool false, .bool false, .int .i64 1, .int .i64 1, .int .i64 0, .int .i64 0, .int .i64 0, .bool false, .bool false, .bool false, .int .i64 0, .int .i64 0, .int .i64 0] 29)) (.cells #[.string ⟨#[116]⟩, .int .i64 1, .int .i64 3, .int .i64 65534, .int .i64 1, .bool true, .bool false, .bool false, .int .i64 1, .int .i64 1, .int .i64 0, .int .i64 0, .int .i64 0, .bool false, .bool false, .bool false, .int .i64 0, .int .i64 0, .int .i64 0] 29) (block_lt hxT)).trans hxT
  have belc1 := balB (balB belc1 (.cells #[.string ⟨#[116]⟩, .int .i64 1, .int .i64 3, .int .i64 65535, .int .i64 1, .bool true, .bool false, .bool false, .int .i64 1, .int .i64 1, .int .i64 0, .int .i64 0, .int .i64 0, .bool false, .bool false, .bool false, .int .i64 0, .int .i64 0, .int .i64 0] 29)) (.cells #[.string ⟨#[116]⟩, .int .i64 1, .int .i64 3, .int .i64 65534, .int .i64 1, .bool true, .bool false, .bool false, .int .i64 1, .int .i64 1, .int .i64 0, .int .i64 0, .int .i64 0, .bool false, .bool false, .bool false, .int .i64 0, .int .i64 0, .int .i64 0] 29)
  go_wp2_with fail
  refine (one_bel _ _).mono ?_
  rintro e c2 ⟨rfl, bc2⟩
  simp only [tgV, tgC, oneT]
  have hxT := keepB bc2 hxT
  have hxU := keepB bc2 hxU
  have belc2 := belc1.trans (bc2.mono belc1.size)
  clear bc2 belc1
  clear q1 q2 q3
  have q1 := new_tag c2 (oneT ⟨#[116]⟩)
  simp only [tgV, tgC, oneT, zT] at q1
  have hxV := heap_alloc_new c2 (.cells #[.string ⟨#[116]⟩, .int .i64 1, .int .i64 1, .int .i64 0, .int .i64 1, .bool false, .bool false, .bool false, .int .i64 2, .int .i64 1, .int .i64 0, .int .i64 0, .int .i64 0, .bool false, .bool false, .bool false, .int .i64 0, .int .i64 0, .int .i64 0] 29)
  have hxT := (heap_alloc_old c2 (.cells #[.string ⟨#[116]⟩, .int .i64 1, .int .i64 1, .int .i64 0, .int .i64 1, .bool false, .bool false, .bool false, .int .i64 2, .int .i64 1, .int .i64 0, .int .i64 0, .int .i64 0, .bool false, .bool false, .bool false, .int .i64 0, .int .i64 0, .int .i64 0] 29) (block_lt hxT)).trans hxT
  have hxU := (heap_alloc_old c2 (.cells #[.string ⟨#[116]⟩, .int .i64 1, .int .i64 1, .int .i64 0, .int .i64 1, .bool false, .bool false, .bool false, .int .i64 2, .int .i64 1, .int .i64 0, .int .i64 0, .int .i64 0, .bool false, .bool false, .bool false, .int .i64 0, .int .i64 0, .int .i64 0] 29) (block_lt hxU)).trans hxU
  have belc2 := balB belc2 (.cells #[.string ⟨#[116]⟩, .int .i64 1, .int .i64 1, .int .i64 0, .int .i64 1, .bool false, .bool false, .bool false, .int .i64 2, .int .i64 1, .int .i64 0, .int .i64 0, .int .i64 0, .bool false, .bool false, .bool false, .int .i64 0, .int .i64 0, .int .i64 0] 29)
  go_wp2_with fail
  refine (one_bel _ _).mono ?_
  rintro e c3 ⟨rfl, bc3⟩
  simp only [tgV, tgC, oneT]
  have hxT := keepB bc3 hxT
  have hxU := keepB bc3 hxU
  have hxV := keepB bc3 hxV
  have belc3 := belc2.trans (bc3.mono belc2.size)
  clear bc3 belc2
  clear q1
  have q1 := new_tag c3 (oneT ⟨#[116]⟩)
  simp only [tgV, tgC, oneT, zT] at q1
  have hxW := heap_alloc_new c3 (.cells #[.string ⟨#[116]⟩, .int .i64 248, .int .i64 3, .int .i64 0, .int .i64 1, .bool false, .bool false, .bool false, .int .i64 1, .int .i64 1, .int .i64 0, .int .i64 0, .int .i64 0, .bool false, .bool false, .bool false, .int .i64 0, .int .i64 0, .int .i64 0] 29)
  have hxT := (heap_alloc_old c3 (.cells #[.string ⟨#[116]⟩, .int .i64 248, .int .i64 3, .int .i64 0, .int .i64 1, .bool false, .bool false, .bool false, .int .i64 1, .int .i64 1, .int .i64 0, .int .i64 0, .int .i64 0, .bool false, .bool false, .bool false, .int .i64 0, .int .i64 0, .int .i64 0] 29) (block_lt hxT)).trans hxT
  have hxU := (heap_alloc_old c3 (.cells #[.string ⟨#[116]⟩, .int .i64 248, .int .i64 3, .int .i64 0, .int .i64 1, .bool false, .bool false, .bool false, .int .i64 1, .int .i64 1, .int .i64 0, .int .i64 0, .int .i64 0, .bool false, .bool false, .bool false, .int .i64 0, .int .i64 0, .int .i64 0] 29) (block_lt hxU)).trans hxU
  have hxV := (heap_alloc_old c3 (.cells #[.string ⟨#[116]⟩, .int .i64 248, .int .i64 3, .int .i64 0, .int .i64 1, .bool false, .bool false, .bool false, .int .i64 1, .int .i64 1, .int .i64 0, .int .i64 0, .int .i64 0, .bool false, .bool false, .bool false, .int .i64 0, .int .i64 0, .int .i64 0] 29) (block_lt hxV)).trans hxV
  have belc3 := balB belc3 (.cells #[.string ⟨#[116]⟩, .int .i64 248, .int .i64 3, .int .i64 0, .int .i64 1, .bool false, .bool false, .bool false, .int .i64 1, .int .i64 1, .int .i64 0, .int .i64 0, .int .i64 0, .bool false, .bool false, .bool false, .int .i64 0, .int .i64 0, .int .i64 0] 29)
  go_wp2_with fail
  refine (one_bel _ _).mono ?_
  rintro e c4 ⟨rfl, bc4⟩
  simp only [tgV, tgC, oneT]
  have hxT := keepB bc4 hxT
  have hxU := keepB bc4 hxU
  have hxV := keepB bc4 hxV
  have hxW := keepB bc4 hxW
  have belc4 := belc3.trans (bc4.mono belc3.size)
  clear bc4 belc3
  clear q1
  have q1 := new_tag c4 (oneT ⟨#[116]⟩)
  simp only [tgV, tgC, oneT, zT] at q1
  have hxX := heap_alloc_new c4 (.cells #[.string ⟨#[116]⟩, .int .i64 1, .int .i64 3, .int .i64 0, .int .i64 1048577, .bool false, .bool false, .bool false, .int .i64 1, .int .i64 1, .int .i64 0, .int .i64 0, .int .i64 0, .bool false, .bool false, .bool false, .int .i64 0, .int .i64 0, .int .i64 0] 29)
  have hxT := (heap_alloc_old c4 (.cells #[.string ⟨#[116]⟩, .int .i64 1, .int .i64 3, .int .i64 0, .int .i64 1048577, .bool false, .bool false, .bool false, .int .i64 1, .int .i64 1, .int .i64 0, .int .i64 0, .int .i64 0, .bool false, .bool false, .bool false, .int .i64 0, .int .i64 0, .int .i64 0] 29) (block_lt hxT)).trans hxT
  have hxU := (heap_alloc_old c4 (.cells #[.string ⟨#[116]⟩, .int .i64 1, .int .i64 3, .int .i64 0, .int .i64 1048577, .bool false, .bool false, .bool false, .int .i64 1, .int .i64 1, .int .i64 0, .int .i64 0, .int .i64 0, .bool false, .bool false, .bool false, .int .i64 0, .int .i64 0, .int .i64 0] 29) (block_lt hxU)).trans hxU
  have hxV := (heap_alloc_old c4 (.cells #[.string ⟨#[116]⟩, .int .i64 1, .int .i64 3, .int .i64 0, .int .i64 1048577, .bool false, .bool false, .bool false, .int .i64 1, .int .i64 1, .int .i64 0, .int .i64 0, .int .i64 0, .bool false, .bool false, .bool false, .int .i64 0, .int .i64 0, .int .i64 0] 29) (block_lt hxV)).trans hxV
  have hxW := (heap_alloc_old c4 (.cells #[.string ⟨#[116]⟩, .int .i64 1, .int .i64 3, .int .i64 0, .int .i64 1048577, .bool false, .bool false, .bool false, .int .i64 1, .int .i64 1, .int .i64 0, .int .i64 0, .int .i64 0, .bool false, .bool false, .bool false, .int .i64 0, .int .i64 0, .int .i64 0] 29) (block_lt hxW)).trans hxW
  have belc4 := balB belc4 (.cells #[.string ⟨#[116]⟩, .int .i64 1, .int .i64 3, .int .i64 0, .int .i64 1048577, .bool false, .bool false, .bool false, .int .i64 1, .int .i64 1, .int .i64 0, .int .i64 0, .int .i64 0, .bool false, .bool false, .bool false, .int .i64 0, .int .i64 0, .int .i64 0] 29)
  go_wp2_with fail
  refine (one_bel _ _).mono ?_
  rintro e c5 ⟨rfl, bc5⟩
  simp only [tgV, tgC, oneT]
  have hxT := keepB bc5 hxT
  have hxU := keepB bc5 hxU
  have hxV := keepB bc5 hxV
  have hxW := keepB bc5 hxW
  have hxX := keepB bc5 hxX
  have belc5 := belc4.trans (bc5.mono belc4.size)
  clear bc5 belc4
  clear q1
  have q1 := new_tag c5 (oneT ⟨#[116]⟩)
  simp only [tgV, tgC, oneT, zT] at q1
  have hxY := heap_alloc_new c5 (.cells #[.string ⟨#[116]⟩, .int .i64 1, .int .i64 3, .int .i64 0, .int .i64 1, .bool false, .bool false, .bool false, .int .i64 1, .int .i64 1, .int .i64 0, .int .i64 (-1), .int .i64 0, .bool false, .bool false, .bool false, .int .i64 0, .int .i64 0, .int .i64 0] 29)
  have hxT := (heap_alloc_old c5 (.cells #[.string ⟨#[116]⟩, .int .i64 1, .int .i64 3, .int .i64 0, .int .i64 1, .bool false, .bool false, .bool false, .int .i64 1, .int .i64 1, .int .i64 0, .int .i64 (-1), .int .i64 0, .bool false, .bool false, .bool false, .int .i64 0, .int .i64 0, .int .i64 0] 29) (block_lt hxT)).trans hxT
  have hxU := (heap_alloc_old c5 (.cells #[.string ⟨#[116]⟩, .int .i64 1, .int .i64 3, .int .i64 0, .int .i64 1, .bool false, .bool false, .bool false, .int .i64 1, .int .i64 1, .int .i64 0, .int .i64 (-1), .int .i64 0, .bool false, .bool false, .bool false, .int .i64 0, .int .i64 0, .int .i64 0] 29) (block_lt hxU)).trans hxU
  have hxV := (heap_alloc_old c5 (.cells #[.string ⟨#[116]⟩, .int .i64 1, .int .i64 3, .int .i64 0, .int .i64 1, .bool false, .bool false, .bool false, .int .i64 1, .int .i64 1, .int .i64 0, .int .i64 (-1), .int .i64 0, .bool false, .bool false, .bool false, .int .i64 0, .int .i64 0, .int .i64 0] 29) (block_lt hxV)).trans hxV
  have hxW := (heap_alloc_old c5 (.cells #[.string ⟨#[116]⟩, .int .i64 1, .int .i64 3, .int .i64 0, .int .i64 1, .bool false, .bool false, .bool false, .int .i64 1, .int .i64 1, .int .i64 0, .int .i64 (-1), .int .i64 0, .bool false, .bool false, .bool false, .int .i64 0, .int .i64 0, .int .i64 0] 29) (block_lt hxW)).trans hxW
  have hxX := (heap_alloc_old c5 (.cells #[.string ⟨#[116]⟩, .int .i64 1, .int .i64 3, .int .i64 0, .int .i64 1, .bool false, .bool false, .bool false, .int .i64 1, .int .i64 1, .int .i64 0, .int .i64 (-1), .int .i64 0, .bool false, .bool false, .bool false, .int .i64 0, .int .i64 0, .int .i64 0] 29) (block_lt hxX)).trans hxX
  have belc5 := balB belc5 (.cells #[.string ⟨#[116]⟩, .int .i64 1, .int .i64 3, .int .i64 0, .int .i64 1, .bool false, .bool false, .bool false, .int .i64 1, .int .i64 1, .int .i64 0, .int .i64 (-1), .int .i64 0, .bool false, .bool false, .bool false, .int .i64 0, .int .i64 0, .int .i64 0] 29)
  go_wp2_with fail
  refine (one_bel _ _).mono ?_
  rintro e c6 ⟨rfl, bc6⟩
  simp only [tgV, tgC, oneT]
  have hxT := keepB bc6 hxT
  have hxU := keepB bc6 hxU
  have hxV := keepB bc6 hxV
  have hxW := keepB bc6 hxW
  have hxX := keepB bc6 hxX
  have hxY := keepB bc6 hxY
  have belc6 := belc5.trans (bc6.mono belc5.size)
  clear bc6 belc5
  clear q1
  have q1 := new_tag c6 (oneT ⟨#[116]⟩)
  simp only [tgV, tgC, oneT, zT] at q1
  have hxZ := heap_alloc_new c6 (.cells #[.string ⟨#[116]⟩, .int .i64 1, .int .i64 3, .int .i64 0, .int .i64 1, .bool false, .bool false, .bool false, .int .i64 1, .int .i64 1, .int .i64 0, .int .i64 0, .int .i64 0, .bool false, .bool false, .bool false, .int .i64 0, .int .i64 0, .int .i64 (-1)] 29)
  have hxT := (heap_alloc_old c6 (.cells #[.string ⟨#[116]⟩, .int .i64 1, .int .i64 3, .int .i64 0, .int .i64 1, .bool false, .bool false, .bool false, .int .i64 1, .int .i64 1, .int .i64 0, .int .i64 0, .int .i64 0, .bool false, .bool false, .bool false, .int .i64 0, .int .i64 0, .int .i64 (-1)] 29) (block_lt hxT)).trans hxT
  have hxU := (heap_alloc_old c6 (.cells #[.string ⟨#[116]⟩, .int .i64 1, .int .i64 3, .int .i64 0, .int .i64 1, .bool false, .bool false, .bool false, .int .i64 1, .int .i64 1, .int .i64 0, .int .i64 0, .int .i64 0, .bool false, .bool false, .bool false, .int .i64 0, .int .i64 0, .int .i64 (-1)] 29) (block_lt hxU)).trans hxU
  have hxV := (heap_alloc_old c6 (.cells #[.string ⟨#[116]⟩, .int .i64 1, .int .i64 3, .int .i64 0, .int .i64 1, .bool false, .bool false, .bool false, .int .i64 1, .int .i64 1, .int .i64 0, .int .i64 0, .int .i64 0, .bool false, .bool false, .bool false, .int .i64 0, .int .i64 0, .int .i64 (-1)] 29) (block_lt hxV)).trans hxV
  have hxW := (heap_alloc_old c6 (.cells #[.string ⟨#[116]⟩, .int .i64 1, .int .i64 3, .int .i64 0, .int .i64 1, .bool false, .bool false, .bool false, .int .i64 1, .int .i64 1, .int .i64 0, .int .i64 0, .int .i64 0, .bool false, .bool false, .bool false, .int .i64 0, .int .i64 0, .int .i64 (-1)] 29) (block_lt hxW)).trans hxW
  have hxX := (heap_alloc_old c6 (.cells #[.string ⟨#[116]⟩, .int .i64 1, .int .i64 3, .int .i64 0, .int .i64 1, .bool false, .bool false, .bool false, .int .i64 1, .int .i64 1, .int .i64 0, .int .i64 0, .int .i64 0, .bool false, .bool false, .bool false, .int .i64 0, .int .i64 0, .int .i64 (-1)] 29) (block_lt hxX)).trans hxX
  have hxY := (heap_alloc_old c6 (.cells #[.string ⟨#[116]⟩, .int .i64 1, .int .i64 3, .int .i64 0, .int .i64 1, .bool false, .bool false, .bool false, .int .i64 1, .int .i64 1, .int .i64 0, .int .i64 0, .int .i64 0, .bool false, .bool false, .bool false, .int .i64 0, .int .i64 0, .int .i64 (-1)] 29) (block_lt hxY)).trans hxY
  have belc6 := balB belc6 (.cells #[.string ⟨#[116]⟩, .int .i64 1, .int .i64 3, .int .i64 0, .int .i64 1, .bool false, .bool false, .bool false, .int .i64 1, .int .i64 1, .int .i64 0, .int .i64 0, .int .i64 0, .bool false, .bool false, .bool false, .int .i64 0, .int .i64 0, .int .i64 (-1)] 29)
  go_upto_region 18 with fail
  clear q1
  generalize c6.alloc (.cells #[.string ⟨#[116]⟩, .int .i64 1, .int .i64 3, .int .i64 0, .int .i64 1, .bool false, .bool false, .bool false, .int .i64 1, .int .i64 1, .int .i64 0, .int .i64 0, .int .i64 0, .bool false, .bool false, .bool false, .int .i64 0, .int .i64 0, .int .i64 (-1)] 29) = wk at *
  generalize c1.heap.size = g1 at *
  generalize c2.heap.size = g2 at *
  generalize c3.heap.size = g3 at *
  generalize c4.heap.size = g4 at *
  generalize c5.heap.size = g5 at *
  generalize c6.heap.size = g6 at *
  have HK : Hid (∀ w' : World, Below wk.heap.size wk w' → (Below wk.heap.size wk w' ∧ (ldTag (.pointer (some ⟨g1, 0, none⟩))).run Try.prog w' = .ok (.agg #[.string ⟨#[116]⟩, .int .i64 1, .int .i64 3, .int .i64 65535, .int .i64 1, .bool true, .bool false, .bool false, .int .i64 1, .int .i64 1, .int .i64 0, .int .i64 0, .int .i64 0, .bool false, .bool false, .bool false, .int .i64 0, .int .i64 0, .int .i64 0]) w' ∧ (ldTag (.pointer (some ⟨(g1 + 1), 0, none⟩))).run Try.prog w' = .ok (.agg #[.string ⟨#[116]⟩, .int .i64 1, .int .i64 3, .int .i64 65534, .int .i64 1, .bool true, .bool false, .bool false, .int .i64 1, .int .i64 1, .int .i64 0, .int .i64 0, .int .i64 0, .bool false, .bool false, .bool false, .int .i64 0, .int .i64 0, .int .i64 0]) w' ∧ (ldTag (.pointer (some ⟨g2, 0, none⟩))).run Try.prog w' = .ok (.agg #[.string ⟨#[116]⟩, .int .i64 1, .int .i64 1, .int .i64 0, .int .i64 1, .bool false, .bool false, .bool false, .int .i64 2, .int .i64 1, .int .i64 0, .int .i64 0, .int .i64 0, .bool false, .bool false, .bool false, .int .i64 0, .int .i64 0, .int .i64 0]) w' ∧ (ldTag (.pointer (some ⟨g3, 0, none⟩))).run Try.prog w' = .ok (.agg #[.string ⟨#[116]⟩, .int .i64 248, .int .i64 3, .int .i64 0, .int .i64 1, .bool false, .bool false, .bool false, .int .i64 1, .int .i64 1, .int .i64 0, .int .i64 0, .int .i64 0, .bool false, .bool false, .bool false, .int .i64 0, .int .i64 0, .int .i64 0]) w' ∧ (ldTag (.pointer (some ⟨g4, 0, none⟩))).run Try.prog w' = .ok (.agg #[.string ⟨#[116]⟩, .int .i64 1, .int .i64 3, .int .i64 0, .int .i64 1048577, .bool false, .bool false, .bool false, .int .i64 1, .int .i64 1, .int .i64 0, .int .i64 0, .int .i64 0, .bool false, .bool false, .bool false, .int .i64 0, .int .i64 0, .int .i64 0]) w' ∧ (ldTag (.pointer (some ⟨g5, 0, none⟩))).run Try.prog w' = .ok (.agg #[.string ⟨#[116]⟩, .int .i64 1, .int .i64 3, .int .i64 0, .int .i64 1, .bool false, .bool false, .bool false, .int .i64 1, .int .i64 1, .int .i64 0, .int .i64 (-1), .int .i64 0, .bool false, .bool false, .bool false, .int .i64 0, .int .i64 0, .int .i64 0]) w' ∧ (ldTag (.pointer (some ⟨g6, 0, none⟩))).run Try.prog w' = .ok (.agg #[.string ⟨#[116]⟩, .int .i64 1, .int .i64 3, .int .i64 0, .int .i64 1, .bool false, .bool false, .bool false, .int .i64 1, .int .i64 1, .int .i64 0, .int .i64 0, .int .i64 0, .bool false, .bool false, .bool false, .int .i64 0, .int .i64 0, .int .i64 (-1)]) w')) := Lib.hid fun w' hw => ⟨hw, ldTag_run (cs := [.string ⟨#[116]⟩, .int .i64 1, .int .i64 3, .int .i64 65535, .int .i64 1, .bool true, .bool false, .bool false, .int .i64 1, .int .i64 1, .int .i64 0, .int .i64 0, .int .i64 0, .bool false, .bool false, .bool false, .int .i64 0, .int .i64 0, .int .i64 0]) rfl (rangeB (keepB hw hxT)), ldTag_run (cs := [.string ⟨#[116]⟩, .int .i64 1, .int .i64 3, .int .i64 65534, .int .i64 1, .bool true, .bool false, .bool false, .int .i64 1, .int .i64 1, .int .i64 0, .int .i64 0, .int .i64 0, .bool false, .bool false, .bool false, .int .i64 0, .int .i64 0, .int .i64 0]) rfl (rangeB (keepB hw hxU)), ldTag_run (cs := [.string ⟨#[116]⟩, .int .i64 1, .int .i64 1, .int .i64 0, .int .i64 1, .bool false, .bool false, .bool false, .int .i64 2, .int .i64 1, .int .i64 0, .int .i64 0, .int .i64 0, .bool false, .bool false, .bool false, .int .i64 0, .int .i64 0, .int .i64 0]) rfl (rangeB (keepB hw hxV)), ldTag_run (cs := [.string ⟨#[116]⟩, .int .i64 248, .int .i64 3, .int .i64 0, .int .i64 1, .bool false, .bool false, .bool false, .int .i64 1, .int .i64 1, .int .i64 0, .int .i64 0, .int .i64 0, .bool false, .bool false, .bool false, .int .i64 0, .int .i64 0, .int .i64 0]) rfl (rangeB (keepB hw hxW)), ldTag_run (cs := [.string ⟨#[116]⟩, .int .i64 1, .int .i64 3, .int .i64 0, .int .i64 1048577, .bool false, .bool false, .bool false, .int .i64 1, .int .i64 1, .int .i64 0, .int .i64 0, .int .i64 0, .bool false, .bool false, .bool false, .int .i64 0, .int .i64 0, .int .i64 0]) rfl (rangeB (keepB hw hxX)), ldTag_run (cs := [.string ⟨#[116]⟩, .int .i64 1, .int .i64 3, .int .i64 0, .int .i64 1, .bool false, .bool false, .bool false, .int .i64 1, .int .i64 1, .int .i64 0, .int .i64 (-1), .int .i64 0, .bool false, .bool false, .bool false, .int .i64 0, .int .i64 0, .int .i64 0]) rfl (rangeB (keepB hw hxY)), ldTag_run (cs := [.string ⟨#[116]⟩, .int .i64 1, .int .i64 3, .int .i64 0, .int .i64 1, .bool false, .bool false, .bool false, .int .i64 1, .int .i64 1, .int .i64 0, .int .i64 0, .int .i64 0, .bool false, .bool false, .bool false, .int .i64 0, .int .i64 0, .int .i64 (-1)]) rfl (rangeB (keepB hw hxZ))⟩
  clear hxT hxU hxV hxW hxX hxY hxZ
  refine wp_region_held_drew (S := (fun w' => Below wk.heap.size wk w' ∧ (ldTag (.pointer (some ⟨g1, 0, none⟩))).run Try.prog w' = .ok (.agg #[.string ⟨#[116]⟩, .int .i64 1, .int .i64 3, .int .i64 65535, .int .i64 1, .bool true, .bool false, .bool false, .int .i64 1, .int .i64 1, .int .i64 0, .int .i64 0, .int .i64 0, .bool false, .bool false, .bool false, .int .i64 0, .int .i64 0, .int .i64 0]) w' ∧ (ldTag (.pointer (some ⟨(g1 + 1), 0, none⟩))).run Try.prog w' = .ok (.agg #[.string ⟨#[116]⟩, .int .i64 1, .int .i64 3, .int .i64 65534, .int .i64 1, .bool true, .bool false, .bool false, .int .i64 1, .int .i64 1, .int .i64 0, .int .i64 0, .int .i64 0, .bool false, .bool false, .bool false, .int .i64 0, .int .i64 0, .int .i64 0]) w' ∧ (ldTag (.pointer (some ⟨g2, 0, none⟩))).run Try.prog w' = .ok (.agg #[.string ⟨#[116]⟩, .int .i64 1, .int .i64 1, .int .i64 0, .int .i64 1, .bool false, .bool false, .bool false, .int .i64 2, .int .i64 1, .int .i64 0, .int .i64 0, .int .i64 0, .bool false, .bool false, .bool false, .int .i64 0, .int .i64 0, .int .i64 0]) w' ∧ (ldTag (.pointer (some ⟨g3, 0, none⟩))).run Try.prog w' = .ok (.agg #[.string ⟨#[116]⟩, .int .i64 248, .int .i64 3, .int .i64 0, .int .i64 1, .bool false, .bool false, .bool false, .int .i64 1, .int .i64 1, .int .i64 0, .int .i64 0, .int .i64 0, .bool false, .bool false, .bool false, .int .i64 0, .int .i64 0, .int .i64 0]) w' ∧ (ldTag (.pointer (some ⟨g4, 0, none⟩))).run Try.prog w' = .ok (.agg #[.string ⟨#[116]⟩, .int .i64 1, .int .i64 3, .int .i64 0, .int .i64 1048577, .bool false, .bool false, .bool false, .int .i64 1, .int .i64 1, .int .i64 0, .int .i64 0, .int .i64 0, .bool false, .bool false, .bool false, .int .i64 0, .int .i64 0, .int .i64 0]) w' ∧ (ldTag (.pointer (some ⟨g5, 0, none⟩))).run Try.prog w' = .ok (.agg #[.string ⟨#[116]⟩, .int .i64 1, .int .i64 3, .int .i64 0, .int .i64 1, .bool false, .bool false, .bool false, .int .i64 1, .int .i64 1, .int .i64 0, .int .i64 (-1), .int .i64 0, .bool false, .bool false, .bool false, .int .i64 0, .int .i64 0, .int .i64 0]) w' ∧ (ldTag (.pointer (some ⟨g6, 0, none⟩))).run Try.prog w' = .ok (.agg #[.string ⟨#[116]⟩, .int .i64 1, .int .i64 3, .int .i64 0, .int .i64 1, .bool false, .bool false, .bool false, .int .i64 1, .int .i64 1, .int .i64 0, .int .i64 0, .int .i64 0, .bool false, .bool false, .bool false, .int .i64 0, .int .i64 0, .int .i64 (-1)]) w')) (by kernel_rfl) (HK.out _ (below_drew (Below.refl _ _))) (fun hHeld => ?_)
  refine wpAnyH_take (i := 1) (oi := { dst := some 81, op := Op.load 29 (Operand.tmp 2), type := 29, pos := "outright.go:101", after := #[], guard := none }) (v := ?v1) rfl (by kernel_rfl) (by kernel_rfl) (by kernel_rfl) (fun _ _ _ h => h) (Or.inl ⟨by rfl, ?hy1⟩) (by assumption) ?rest1
  case hy1 => (intro w' hSw; (try dsimp only at hSw); go_simp; try with_reducible rfl)
  simp only [Act.put, List.setIfInBounds_toArray, List.set_cons_zero, List.set_cons_succ]
  refine wpAnyH_take (i := 2) (oi := { dst := some 82, op := Op.load 29 (Operand.tmp 3), type := 29, pos := "outright.go:101", after := #[], guard := none }) (v := ?v2) rfl (by kernel_rfl) (by kernel_rfl) (by kernel_rfl) (fun _ _ _ h => h) (Or.inl ⟨by rfl, ?hy2⟩) (by assumption) ?rest2
  case hy2 => (intro w' hSw; (try dsimp only at hSw); go_simp; try with_reducible rfl)
  simp only [Act.put, List.setIfInBounds_toArray, List.set_cons_zero, List.set_cons_succ]
  refine wpAnyH_take (i := 3) (oi := { dst := some 83, op := Op.load 29 (Operand.tmp 4), type := 29, pos := "outright.go:101", after := #[], guard := none }) (v := ?v3) rfl (by kernel_rfl) (by kernel_rfl) (by kernel_rfl) (fun _ _ _ h => h) (Or.inl ⟨by rfl, ?hy3⟩) (by assumption) ?rest3
  case hy3 => (intro w' hSw; (try dsimp only at hSw); go_simp; try with_reducible rfl)
  simp only [Act.put, List.setIfInBounds_toArray, List.set_cons_zero, List.set_cons_succ]
  refine wpAnyH_take (i := 4) (oi := { dst := some 84, op := Op.load 29 (Operand.tmp 5), type := 29, pos := "outright.go:101", after := #[], guard := none }) (v := ?v4) rfl (by kernel_rfl) (by kernel_rfl) (by kernel_rfl) (fun _ _ _ h => h) (Or.inl ⟨by rfl, ?hy4⟩) (by assumption) ?rest4
  case hy4 => (intro w' hSw; (try dsimp only at hSw); go_simp; try with_reducible rfl)
  simp only [Act.put, List.setIfInBounds_toArray, List.set_cons_zero, List.set_cons_succ]
  refine wpAnyH_take (i := 5) (oi := { dst := some 85, op := Op.load 29 (Operand.tmp 6), type := 29, pos := "outright.go:101", after := #[], guard := none }) (v := ?v5) rfl (by kernel_rfl) (by kernel_rfl) (by kernel_rfl) (fun _ _ _ h => h) (Or.inl ⟨by rfl, ?hy5⟩) (by assumption) ?rest5
  case hy5 => (intro w' hSw; (try dsimp only at hSw); go_simp; try with_reducible rfl)
  simp only [Act.put, List.setIfInBounds_toArray, List.set_cons_zero, List.set_cons_succ]
  refine wpAnyH_take (i := 6) (oi := { dst := some 86, op := Op.load 29 (Operand.tmp 7), type := 29, pos := "outright.go:101", after := #[], guard := none }) (v := ?v6) rfl (by kernel_rfl) (by kernel_rfl) (by kernel_rfl) (fun _ _ _ h => h) (Or.inl ⟨by rfl, ?hy6⟩) (by assumption) ?rest6
  case hy6 => (intro w' hSw; (try dsimp only at hSw); go_simp; try with_reducible rfl)
  simp only [Act.put, List.setIfInBounds_toArray, List.set_cons_zero, List.set_cons_succ]
  refine wpAnyH_take (i := 7) (oi := { dst := some 87, op := Op.load 29 (Operand.tmp 8), type := 29, pos := "outright.go:101", after := #[], guard := none }) (v := ?v7) rfl (by kernel_rfl) (by kernel_rfl) (by kernel_rfl) (fun _ _ _ h => h) (Or.inl ⟨by rfl, ?hy7⟩) (by assumption) ?rest7
  case hy7 => (intro w' hSw; (try dsimp only at hSw); go_simp; try with_reducible rfl)
  simp only [Act.put, List.setIfInBounds_toArray, List.set_cons_zero, List.set_cons_succ]
  refine wpAnyH_take (i := 8) (oi := { dst := some 88, op := Op.build 29 #[], type := 29, pos := "outright.go:101", after := #[], guard := none }) (v := ?v8) rfl (by kernel_rfl) (by kernel_rfl) (by kernel_rfl) (fun _ _ _ h => h) (Or.inl ⟨by rfl, ?hy8⟩) (by assumption) ?rest8
  case hy8 => (intro w' hSw; (try dsimp only at hSw); go_simp; try with_reducible rfl)
  simp only [Act.put, List.setIfInBounds_toArray, List.set_cons_zero, List.set_cons_succ]
  refine wpAnyH_ready (rs := [0]) (by kernel_rfl) (by simp) ?_
  refine AllReadyH.cons (o := { dst := some 80, op := Op.call { callee := Callee.value (Operand.func 22), args := #[Operand.const (Value.string { data := #[116] })], argTypes := #[9] }, type := 29, pos := "outright.go:101", after := #[], guard := none }) rfl (fun K hK => ?_) AllReadyH.nil
  go_simp
  go_at_call 22
  refine (one_bel _ _).mono ?_
  rintro e w5 ⟨rfl, b5⟩
  simp only [tgV, tgC, oneT]
  have bel5 : Below wk.heap.size wk w5 := Below.trans (below_drew (Below.refl _ _)) (b5.mono (by simp))
  refine hK.out _ _ (HK.out _ bel5) (fun hHeld => ?_)
  clear hK K
  (try simp only [Act.put, List.setIfInBounds_toArray, List.set_cons_zero, List.set_cons_succ])
  refine wpAnyH_ready (rs := [9]) (by kernel_rfl) (by simp) ?_
  refine AllReadyH.cons (o := { dst := some 89, op := Op.buildSlice 35 9 #[(0, Operand.tmp 80), (1, Operand.tmp 81), (2, Operand.tmp 82), (3, Operand.tmp 83), (4, Operand.tmp 84), (5, Operand.tmp 85), (6, Operand.tmp 86), (7, Operand.tmp 87), (8, Operand.tmp 88)], type := 35, pos := "outright.go:101", after := #[{ on := 0, ground := Ground.data }, { on := 1, ground := Ground.data }, { on := 2, ground := Ground.data }, { on := 3, ground := Ground.data }, { on := 4, ground := Ground.data }, { on := 5, ground := Ground.data }, { on := 6, ground := Ground.data }, { on := 7, ground := Ground.data }, { on := 8, ground := Ground.data }], guard := none }) rfl (fun K hK => ?_) AllReadyH.nil
  go_simp
  refine hK.out _ _ (HK.out _ (balB bel5 _)) (fun hHeld => ?_)
  clear hK K
  (try simp only [Act.put, List.setIfInBounds_toArray, List.set_cons_zero, List.set_cons_succ])
  refine wpAnyH_take (i := 10) (oi := { dst := some 9, op := Op.assign (Operand.tmp 89), type := 35, pos := "outright.go:101", after := #[{ on := 9, ground := Ground.data }, { on := 0, ground := Ground.chain }, { on := 0, ground := Ground.phase }, { on := 1, ground := Ground.phase }, { on := 2, ground := Ground.phase }, { on := 3, ground := Ground.phase }, { on := 4, ground := Ground.phase }, { on := 5, ground := Ground.phase }, { on := 6, ground := Ground.phase }, { on := 7, ground := Ground.phase }, { on := 8, ground := Ground.phase }, { on := 9, ground := Ground.phase }], guard := none }) (v := ?v9) rfl (by kernel_rfl) (by kernel_rfl) (by kernel_rfl) (fun _ _ _ h => h) (Or.inl ⟨by rfl, ?hy9⟩) (by assumption) ?rest9
  case hy9 => (intro w' hSw; (try dsimp only at hSw); go_simp; try with_reducible rfl)
  simp only [Act.put, List.setIfInBounds_toArray, List.set_cons_zero, List.set_cons_succ]
  refine wpAnyH_done (by kernel_rfl) ?_ _
  have rowA : VRow (w5.alloc (.cells #[.string ⟨#[116]⟩, .int .i64 1, .int .i64 3, .int .i64 0, .int .i64 1, .bool false, .bool false, .bool false, .int .i64 1, .int .i64 1, .int .i64 0, .int .i64 0, .int .i64 0, .bool false, .bool false, .bool false, .int .i64 0, .int .i64 0, .int .i64 0, .string ⟨#[116]⟩, .int .i64 1, .int .i64 3, .int .i64 65535, .int .i64 1, .bool true, .bool false, .bool false, .int .i64 1, .int .i64 1, .int .i64 0, .int .i64 0, .int .i64 0, .bool false, .bool false, .bool false, .int .i64 0, .int .i64 0, .int .i64 0, .string ⟨#[116]⟩, .int .i64 1, .int .i64 3, .int .i64 65534, .int .i64 1, .bool true, .bool false, .bool false, .int .i64 1, .int .i64 1, .int .i64 0, .int .i64 0, .int .i64 0, .bool false, .bool false, .bool false, .int .i64 0, .int .i64 0, .int .i64 0, .string ⟨#[116]⟩, .int .i64 1, .int .i64 1, .int .i64 0, .int .i64 1, .bool false, .bool false, .bool false, .int .i64 2, .int .i64 1, .int .i64 0, .int .i64 0, .int .i64 0, .bool false, .bool false, .bool false, .int .i64 0, .int .i64 0, .int .i64 0, .string ⟨#[116]⟩, .int .i64 248, .int .i64 3, .int .i64 0, .int .i64 1, .bool false, .bool false, .bool false, .int .i64 1, .int .i64 1, .int .i64 0, .int .i64 0, .int .i64 0, .bool false, .bool false, .bool false, .int .i64 0, .int .i64 0, .int .i64 0, .string ⟨#[116]⟩, .int .i64 1, .int .i64 3, .int .i64 0, .int .i64 1048577, .bool false, .bool false, .bool false, .int .i64 1, .int .i64 1, .int .i64 0, .int .i64 0, .int .i64 0, .bool false, .bool false, .bool false, .int .i64 0, .int .i64 0, .int .i64 0, .string ⟨#[116]⟩, .int .i64 1, .int .i64 3, .int .i64 0, .int .i64 1, .bool false, .bool false, .bool false, .int .i64 1, .int .i64 1, .int .i64 0, .int .i64 (-1), .int .i64 0, .bool false, .bool false, .bool false, .int .i64 0, .int .i64 0, .int .i64 0, .string ⟨#[116]⟩, .int .i64 1, .int .i64 3, .int .i64 0, .int .i64 1, .bool false, .bool false, .bool false, .int .i64 1, .int .i64 1, .int .i64 0, .int .i64 0, .int .i64 0, .bool false, .bool false, .bool false, .int .i64 0, .int .i64 0, .int .i64 (-1), .string ⟨#[]⟩, .int .i64 0, .int .i64 0, .int .i64 0, .int .i64 0, .bool false, .bool false, .bool false, .int .i64 0, .int .i64 0, .int .i64 0, .int .i64 0, .int .i64 0, .bool false, .bool false, .bool false, .int .i64 0, .int .i64 0, .int .i64 0] 29)) (w5.alloc (.cells #[.string ⟨#[116]⟩, .int .i64 1, .int .i64 3, .int .i64 0, .int .i64 1, .bool false, .bool false, .bool false, .int .i64 1, .int .i64 1, .int .i64 0, .int .i64 0, .int .i64 0, .bool false, .bool false, .bool false, .int .i64 0, .int .i64 0, .int .i64 0, .string ⟨#[116]⟩, .int .i64 1, .int .i64 3, .int .i64 65535, .int .i64 1, .bool true, .bool false, .bool false, .int .i64 1, .int .i64 1, .int .i64 0, .int .i64 0, .int .i64 0, .bool false, .bool false, .bool false, .int .i64 0, .int .i64 0, .int .i64 0, .string ⟨#[116]⟩, .int .i64 1, .int .i64 3, .int .i64 65534, .int .i64 1, .bool true, .bool false, .bool false, .int .i64 1, .int .i64 1, .int .i64 0, .int .i64 0, .int .i64 0, .bool false, .bool false, .bool false, .int .i64 0, .int .i64 0, .int .i64 0, .string ⟨#[116]⟩, .int .i64 1, .int .i64 1, .int .i64 0, .int .i64 1, .bool false, .bool false, .bool false, .int .i64 2, .int .i64 1, .int .i64 0, .int .i64 0, .int .i64 0, .bool false, .bool false, .bool false, .int .i64 0, .int .i64 0, .int .i64 0, .string ⟨#[116]⟩, .int .i64 248, .int .i64 3, .int .i64 0, .int .i64 1, .bool false, .bool false, .bool false, .int .i64 1, .int .i64 1, .int .i64 0, .int .i64 0, .int .i64 0, .bool false, .bool false, .bool false, .int .i64 0, .int .i64 0, .int .i64 0, .string ⟨#[116]⟩, .int .i64 1, .int .i64 3, .int .i64 0, .int .i64 1048577, .bool false, .bool false, .bool false, .int .i64 1, .int .i64 1, .int .i64 0, .int .i64 0, .int .i64 0, .bool false, .bool false, .bool false, .int .i64 0, .int .i64 0, .int .i64 0, .string ⟨#[116]⟩, .int .i64 1, .int .i64 3, .int .i64 0, .int .i64 1, .bool false, .bool false, .bool false, .int .i64 1, .int .i64 1, .int .i64 0, .int .i64 (-1), .int .i64 0, .bool false, .bool false, .bool false, .int .i64 0, .int .i64 0, .int .i64 0, .string ⟨#[116]⟩, .int .i64 1, .int .i64 3, .int .i64 0, .int .i64 1, .bool false, .bool false, .bool false, .int .i64 1, .int .i64 1, .int .i64 0, .int .i64 0, .int .i64 0, .bool false, .bool false, .bool false, .int .i64 0, .int .i64 0, .int .i64 (-1), .string ⟨#[]⟩, .int .i64 0, .int .i64 0, .int .i64 0, .int .i64 0, .bool false, .bool false, .bool false, .int .i64 0, .int .i64 0, .int .i64 0, .int .i64 0, .int .i64 0, .bool false, .bool false, .bool false, .int .i64 0, .int .i64 0, .int .i64 0] 29)).heap.size (some ⟨w5.heap.size, 0, none⟩) (flatV tgC L9) := VRow.new w5 29 (flatV tgC L9)
  have belA := balB bel5 (.cells #[.string ⟨#[116]⟩, .int .i64 1, .int .i64 3, .int .i64 0, .int .i64 1, .bool false, .bool false, .bool false, .int .i64 1, .int .i64 1, .int .i64 0, .int .i64 0, .int .i64 0, .bool false, .bool false, .bool false, .int .i64 0, .int .i64 0, .int .i64 0, .string ⟨#[116]⟩, .int .i64 1, .int .i64 3, .int .i64 65535, .int .i64 1, .bool true, .bool false, .bool false, .int .i64 1, .int .i64 1, .int .i64 0, .int .i64 0, .int .i64 0, .bool false, .bool false, .bool false, .int .i64 0, .int .i64 0, .int .i64 0, .string ⟨#[116]⟩, .int .i64 1, .int .i64 3, .int .i64 65534, .int .i64 1, .bool true, .bool false, .bool false, .int .i64 1, .int .i64 1, .int .i64 0, .int .i64 0, .int .i64 0, .bool false, .bool false, .bool false, .int .i64 0, .int .i64 0, .int .i64 0, .string ⟨#[116]⟩, .int .i64 1, .int .i64 1, .int .i64 0, .int .i64 1, .bool false, .bool false, .bool false, .int .i64 2, .int .i64 1, .int .i64 0, .int .i64 0, .int .i64 0, .bool false, .bool false, .bool false, .int .i64 0, .int .i64 0, .int .i64 0, .string ⟨#[116]⟩, .int .i64 248, .int .i64 3, .int .i64 0, .int .i64 1, .bool false, .bool false, .bool false, .int .i64 1, .int .i64 1, .int .i64 0, .int .i64 0, .int .i64 0, .bool false, .bool false, .bool false, .int .i64 0, .int .i64 0, .int .i64 0, .string ⟨#[116]⟩, .int .i64 1, .int .i64 3, .int .i64 0, .int .i64 1048577, .bool false, .bool false, .bool false, .int .i64 1, .int .i64 1, .int .i64 0, .int .i64 0, .int .i64 0, .bool false, .bool false, .bool false, .int .i64 0, .int .i64 0, .int .i64 0, .string ⟨#[116]⟩, .int .i64 1, .int .i64 3, .int .i64 0, .int .i64 1, .bool false, .bool false, .bool false, .int .i64 1, .int .i64 1, .int .i64 0, .int .i64 (-1), .int .i64 0, .bool false, .bool false, .bool false, .int .i64 0, .int .i64 0, .int .i64 0, .string ⟨#[116]⟩, .int .i64 1, .int .i64 3, .int .i64 0, .int .i64 1, .bool false, .bool false, .bool false, .int .i64 1, .int .i64 1, .int .i64 0, .int .i64 0, .int .i64 0, .bool false, .bool false, .bool false, .int .i64 0, .int .i64 0, .int .i64 (-1), .string ⟨#[]⟩, .int .i64 0, .int .i64 0, .int .i64 0, .int .i64 0, .bool false, .bool false, .bool false, .int .i64 0, .int .i64 0, .int .i64 0, .int .i64 0, .int .i64 0, .bool false, .bool false, .bool false, .int .i64 0, .int .i64 0, .int .i64 0] 29)
  generalize w5.alloc (.cells #[.string ⟨#[116]⟩, .int .i64 1, .int .i64 3, .int .i64 0, .int .i64 1, .bool false, .bool false, .bool false, .int .i64 1, .int .i64 1, .int .i64 0, .int .i64 0, .int .i64 0, .bool false, .bool false, .bool false, .int .i64 0, .int .i64 0, .int .i64 0, .string ⟨#[116]⟩, .int .i64 1, .int .i64 3, .int .i64 65535, .int .i64 1, .bool true, .bool false, .bool false, .int .i64 1, .int .i64 1, .int .i64 0, .int .i64 0, .int .i64 0, .bool false, .bool false, .bool false, .int .i64 0, .int .i64 0, .int .i64 0, .string ⟨#[116]⟩, .int .i64 1, .int .i64 3, .int .i64 65534, .int .i64 1, .bool true, .bool false, .bool false, .int .i64 1, .int .i64 1, .int .i64 0, .int .i64 0, .int .i64 0, .bool false, .bool false, .bool false, .int .i64 0, .int .i64 0, .int .i64 0, .string ⟨#[116]⟩, .int .i64 1, .int .i64 1, .int .i64 0, .int .i64 1, .bool false, .bool false, .bool false, .int .i64 2, .int .i64 1, .int .i64 0, .int .i64 0, .int .i64 0, .bool false, .bool false, .bool false, .int .i64 0, .int .i64 0, .int .i64 0, .string ⟨#[116]⟩, .int .i64 248, .int .i64 3, .int .i64 0, .int .i64 1, .bool false, .bool false, .bool false, .int .i64 1, .int .i64 1, .int .i64 0, .int .i64 0, .int .i64 0, .bool false, .bool false, .bool false, .int .i64 0, .int .i64 0, .int .i64 0, .string ⟨#[116]⟩, .int .i64 1, .int .i64 3, .int .i64 0, .int .i64 1048577, .bool false, .bool false, .bool false, .int .i64 1, .int .i64 1, .int .i64 0, .int .i64 0, .int .i64 0, .bool false, .bool false, .bool false, .int .i64 0, .int .i64 0, .int .i64 0, .string ⟨#[116]⟩, .int .i64 1, .int .i64 3, .int .i64 0, .int .i64 1, .bool false, .bool false, .bool false, .int .i64 1, .int .i64 1, .int .i64 0, .int .i64 (-1), .int .i64 0, .bool false, .bool false, .bool false, .int .i64 0, .int .i64 0, .int .i64 0, .string ⟨#[116]⟩, .int .i64 1, .int .i64 3, .int .i64 0, .int .i64 1, .bool false, .bool false, .bool false, .int .i64 1, .int .i64 1, .int .i64 0, .int .i64 0, .int .i64 0, .bool false, .bool false, .bool false, .int .i64 0, .int .i64 0, .int .i64 (-1), .string ⟨#[]⟩, .int .i64 0, .int .i64 0, .int .i64 0, .int .i64 0, .bool false, .bool false, .bool false, .int .i64 0, .int .i64 0, .int .i64 0, .int .i64 0, .int .i64 0, .bool false, .bool false, .bool false, .int .i64 0, .int .i64 0, .int .i64 0] 29) = wA at *
  generalize w5.heap.size = gA at *
  have belB := balB (belc6.trans (belA.mono belc6.size)) (.cells (blk .i64 N9) 3)
  have rowB := (rowA.alloc (Nat.le_refl _) (.cells (blk .i64 N9) 3)).more (show wA.heap.size ≤ (wA.alloc (.cells (blk .i64 N9) 3)).heap.size by simp)
  have intB := (Row.of_block (heap_alloc_new wA (.cells (blk .i64 N9) 3)) N9 (by decide) (List.prefix_refl _)).more (show wA.heap.size + 1 ≤ (wA.alloc (.cells (blk .i64 N9) 3)).heap.size by simp)
  clear HK belA rowA bel5 b5 belc6 hHeld
  go_wp2_with fail
  generalize hwB : wA.alloc (.cells #[.int .i64 0, .int .i64 21, .int .i64 0, .int .i64 25, .int .i64 24, .int .i64 3, .int .i64 26, .int .i64 27, .int .i64 8] 3) = wB at *
  rw [show (.cells (blk .i64 N9) 3 : Obj) = .cells #[.int .i64 0, .int .i64 21, .int .i64 0, .int .i64 25, .int .i64 24, .int .i64 3, .int .i64 26, .int .i64 27, .int .i64 8] 3 from rfl, hwB] at belB rowB intB
  generalize wA.heap.size = gB at *
  have RB := Lib.hid rowB
  have IB := Lib.hid intB
  clear rowB intB hwB
  go_loopw [11] (fun i wr => ∃ k : Nat, k ≤ 9 ∧ i = .int .i64 k ∧ Hid (Below wB.heap.size wB wr)) (fun i _ => 9 - (intOf i).toNat)
  case atStart => exact ⟨0, by omega, rfl, Lib.hid (Below.refl _ _)⟩
  case round =>
    obtain ⟨k, hk, rfl, hbel⟩ := hrel
    by_cases hlt : k < 9
    · have hkl : k < L9.length := hlt
      have hkn : k < N9.length := hlt
      have n1 : (k : Int) < 9 := by omega
      have n2 : (0 : Int) ≤ k := by omega
      have HCK : Hid (∀ W, Calls Try.prog 13 #[tgV L9[k]] W fun e w' => e = .returned (.int .i64 N9[k]) ∧ Below W.heap.size W w') := Lib.hid fun W => by
        have h := Check9_t9 L9[k] W (L9_ok _ (List.getElem_mem hkl)).1
        rw [chk9_at k hkl hkn] at h
        exact h
      have HK : Hid (∀ w' : World, Below wr.heap.size wr w' → (Below wr.heap.size wr w' ∧ (ldTag (.pointer (some ⟨gA, k * 19, none⟩))).run Try.prog w' = .ok (tgV L9[k]) w' ∧ w'.cell? ⟨gB, k, none⟩ = some (.int .i64 N9[k]))) := Lib.hid fun w' hw => by
        have hbw := hbel.out.trans (hw.mono hbel.out.size)
        obtain ⟨b', o', e, _, h1, _⟩ := (RB.out.below (hbw)).load hkl
        injection e with e
        injection e with e1 e2
        subst e1 e2
        rw [Nat.zero_add] at h1
        obtain ⟨b', o', e, _, h2⟩ := (IB.out.below hbw).2 (by simp [N9])
        injection e with e
        injection e with e1 e2
        subst e1 e2
        have h3 := h2 k hkn
        rw [Nat.zero_add, nth_eq _ _ hkn] at h3
        exact ⟨hw, h1, h3⟩
      generalize tgV L9[k] = tv at HK HCK
      generalize N9[k] = nv at HK HCK
      go_upto_region 23 with fail
      refine wp_region_held_drew (S := (fun w' => Below wr.heap.size wr w' ∧ (ldTag (.pointer (some ⟨gA, k * 19, none⟩))).run Try.prog w' = .ok tv w' ∧ w'.cell? ⟨gB, k, none⟩ = some (.int .i64 nv))) (by kernel_rfl) (HK.out _ (below_drew (Below.refl _ _))) (fun hHeld => ?_)
      refine wpAnyH_take (i := 0) (oi := { dst := some 97, op := Op.move (Operand.tmp 9), type := 35, pos := "outright.go:104", after := #[], guard := none }) (v := ?v10) rfl (by kernel_rfl) (by kernel_rfl) (by kernel_rfl) (fun _ _ _ h => h) (Or.inl ⟨by rfl, ?hy10⟩) (by assumption) ?rest10
      case hy10 => (intro w' hSw; (try dsimp only at hSw); go_simp; try with_reducible rfl)
      simp only [Act.put, List.setIfInBounds_toArray, List.set_cons_zero, List.set_cons_succ]
      refine wpAnyH_take (i := 1) (oi := { dst := some 98, op := Op.move (Operand.tmp 11), type := 3, pos := "outright.go:104", after := #[], guard := none }) (v := ?v11) rfl (by kernel_rfl) (by kernel_rfl) (by kernel_rfl) (fun _ _ _ h => h) (Or.inl ⟨by rfl, ?hy11⟩) (by assumption) ?rest11
      case hy11 => (intro w' hSw; (try dsimp only at hSw); go_simp; try with_reducible rfl)
      simp only [Act.put, List.setIfInBounds_toArray, List.set_cons_zero, List.set_cons_succ]
      refine wpAnyH_take (i := 2) (oi := { dst := some 99, op := Op.indexAddr 35 (Operand.tmp 97) (Operand.tmp 98), type := 0, pos := "outright.go:104", after := #[{ on := 0, ground := Ground.data }, { on := 1, ground := Ground.data }], guard := none }) (v := ?v12) rfl (by kernel_rfl) (by kernel_rfl) (by kernel_rfl) (fun _ _ _ h => h) (Or.inl ⟨by rfl, ?hy12⟩) (by assumption) ?rest12
      case hy12 => (intro w' hSw; (try dsimp only at hSw); go_simp; try with_reducible rfl)
      simp only [Act.put, List.setIfInBounds_toArray, List.set_cons_zero, List.set_cons_succ]
      refine wpAnyH_take (i := 3) (oi := { dst := some 100, op := Op.load 29 (Operand.tmp 99), type := 29, pos := "outright.go:104", after := #[{ on := 2, ground := Ground.data }], guard := none }) (v := ?v13) rfl (by kernel_rfl) (by kernel_rfl) (by kernel_rfl) (fun _ _ _ h => h) (Or.inl ⟨by rfl, ?hy13⟩) (by assumption) ?rest13
      case hy13 => (intro w' hSw; (try dsimp only at hSw); go_simp; try with_reducible rfl)
      simp only [Act.put, List.setIfInBounds_toArray, List.set_cons_zero, List.set_cons_succ]
      refine wpAnyH_take (i := 5) (oi := { dst := some 102, op := Op.move (Operand.tmp 10), type := 47, pos := "outright.go:104", after := #[], guard := none }) (v := ?v14) rfl (by kernel_rfl) (by kernel_rfl) (by kernel_rfl) (fun _ _ _ h => h) (Or.inl ⟨by rfl, ?hy14⟩) (by assumption) ?rest14
      case hy14 => (intro w' hSw; (try dsimp only at hSw); go_simp; try with_reducible rfl)
      simp only [Act.put, List.setIfInBounds_toArray, List.set_cons_zero, List.set_cons_succ]
      refine wpAnyH_take (i := 6) (oi := { dst := some 103, op := Op.move (Operand.tmp 11), type := 3, pos := "outright.go:104", after := #[], guard := none }) (v := ?v15) rfl (by kernel_rfl) (by kernel_rfl) (by kernel_rfl) (fun _ _ _ h => h) (Or.inl ⟨by rfl, ?hy15⟩) (by assumption) ?rest15
      case hy15 => (intro w' hSw; (try dsimp only at hSw); go_simp; try with_reducible rfl)
      simp only [Act.put, List.setIfInBounds_toArray, List.set_cons_zero, List.set_cons_succ]
      refine wpAnyH_take (i := 7) (oi := { dst := some 104, op := Op.indexAddr 47 (Operand.tmp 102) (Operand.tmp 103), type := 0, pos := "outright.go:104", after := #[{ on := 5, ground := Ground.data }, { on := 6, ground := Ground.data }], guard := none }) (v := ?v16) rfl (by kernel_rfl) (by kernel_rfl) (by kernel_rfl) (fun _ _ _ h => h) (Or.inl ⟨by rfl, ?hy16⟩) (by assumption) ?rest16
      case hy16 => (intro w' hSw; (try dsimp only at hSw); go_simp; try with_reducible rfl)
      simp only [Act.put, List.setIfInBounds_toArray, List.set_cons_zero, List.set_cons_succ]
      refine wpAnyH_take (i := 8) (oi := { dst := some 105, op := Op.load 3 (Operand.tmp 104), type := 3, pos := "outright.go:104", after := #[{ on := 7, ground := Ground.data }], guard := none }) (v := ?v17) rfl (by kernel_rfl) (by kernel_rfl) (by kernel_rfl) (fun _ _ _ h => h) (Or.inl ⟨by rfl, ?hy17⟩) (by assumption) ?rest17
      case hy17 => (intro w' hSw; (try dsimp only at hSw); go_simp; try with_reducible rfl)
      simp only [Act.put, List.setIfInBounds_toArray, List.set_cons_zero, List.set_cons_succ]
      refine wpAnyH_ready (rs := [4]) (by kernel_rfl) (by simp) ?_
      refine AllReadyH.cons (o := { dst := some 101, op := Op.call { callee := Callee.value (Operand.func 13), args := #[Operand.tmp 100], argTypes := #[29] }, type := 32, pos := "outright.go:104", after := #[{ on := 3, ground := Ground.data }], guard := none }) rfl (fun K hK => ?_) AllReadyH.nil
      go_simp
      go_at_call 13
      refine (HCK.out _).mono ?_
      rintro e w6 ⟨rfl, b6⟩
      have bel6 : Below wr.heap.size wr w6 := Below.trans (below_drew (Below.refl _ _)) (b6.mono (by simp))
      refine hK.out _ _ (HK.out _ bel6) (fun hHeld => ?_)
      clear hK K
      (try simp only [Act.put, List.setIfInBounds_toArray, List.set_cons_zero, List.set_cons_succ])
      refine wpAnyH_take (i := 9) (oi := { dst := some 106, op := Op.binOp BinOp.neq 3 (Operand.tmp 101) (Operand.tmp 105) 3, type := 4, pos := "outright.go:104", after := #[{ on := 4, ground := Ground.data }, { on := 8, ground := Ground.data }], guard := none }) (v := ?v18) rfl (by kernel_rfl) (by kernel_rfl) (by kernel_rfl) (fun _ _ _ h => h) (Or.inl ⟨by rfl, ?hy18⟩) (by assumption) ?rest18
      case hy18 => (intro w' hSw; (try dsimp only at hSw); go_simp; try with_reducible rfl)
      simp only [Act.put, List.setIfInBounds_toArray, List.set_cons_zero, List.set_cons_succ]
      refine wpAnyH_done (by kernel_rfl) ?_ _
      go_wp2
      go_roundw
      case rel => exact ⟨k + 1, by omega, by go_num, Lib.hid (hbel.out.trans (bel6.mono hbel.out.size))⟩
      case measure => simp [intOf]; omega
    · obtain rfl : k = 9 := by omega
      have belr := belB.trans (hbel.out.mono belB.size)
      clear hbel belB
      go_wp2_with fail
      refine (one_bel _ _).mono ?_
      rintro e d1 ⟨rfl, bd1⟩
      go_wp2_with fail
      refine (one_bel _ _).mono ?_
      rintro e d2 ⟨rfl, bd2⟩
      have beld2 := belr.trans ((bd1.trans (bd2.mono bd1.size)).mono belr.size)
      clear bd1 bd2 belr
      simp only [tgV, tgC, oneT]
      go_wp2_with fail
      refine (CheckAll9_any _ 2 2 [oneT sB, oneT sA] _ (VRow.new d2 29 (flatV tgC [oneT sB, oneT sA])) rfl (by omega) (fun t ht => by
        simp only [List.mem_cons, List.not_mem_nil, or_false] at ht
        rcases ht with rfl | rfl <;> exact oneT_ok (by decide))).mono ?_
      rintro e d3 ⟨rfl, bd3⟩
      rw [chk_ba]
      have beld3 := (balB beld2 (.cells (flatV tgC [oneT sB, oneT sA]).toArray 29)).trans (bd3.mono (balB beld2 (.cells (flatV tgC [oneT sB, oneT sA]).toArray 29)).size)
      clear bd3 beld2
      go_wp2_with fail
      go_loopw [14, 15] (fun v i wr => ∃ k : Nat, k ≤ 65 ∧ i = .int .i64 k ∧ Hid (TgOwn wr d3.heap.size v (manyL k)) ∧ Hid (Below d3.heap.size d3 wr)) (fun _ i _ => 65 - (intOf i).toNat)
      case atStart => exact ⟨0, by omega, rfl, Lib.hid (TgOwn.nil _ _), Lib.hid (Below.refl _ _)⟩
      case round =>
        obtain ⟨k, hk, rfl, hown, hbel⟩ := hrel
        by_cases hlt : k < 65
        · have n1 : (k : Int) < 65 := by omega
          have n2 : (0 : Int) ≤ k := by omega
          have hcv := run_convert_bytes_arg (P := Try.prog) (wr.alloc (.cells #[.int .u8 (65 + (k : Int) / 26), .int .u8 (97 + (k : Int) % 26)] 5)) 48 5 Try.underlying48 Try.underlying5 wr.heap.size 0 2 2 [65 + (k : Int) / 26, 97 + (k : Int) % 26] rfl (by
            intro i hi
            rw [Nat.zero_add, cell_of_row _ _ i _ _ _ (heap_alloc_new wr (.cells #[.int .u8 (65 + (k : Int) / 26), .int .u8 (97 + (k : Int) % 26)] 5))]
            rcases i with _ | _ | i
            · rfl
            · rfl
            · omega) 9 Try.underlying9
          go_wp2_with fail
          refine (one_bel _ _).mono ?_
          rintro e e1 ⟨rfl, be1⟩
          have own1 := (hown.out.alloc (.cells #[.int .u8 (65 + (k : Int) / 26), .int .u8 (97 + (k : Int) % 26)] 5)).below be1 (Nat.le_refl _)
          have bele := (hbel.out.alloc hbel.out.size (.cells #[.int .u8 (65 + (k : Int) / 26), .int .u8 (97 + (k : Int) % 26)] 5)).trans (be1.mono (by have := hbel.out.size; simp; omega))
          have HS : Hid (⟨#[97]⟩ ++ strOfNums [65 + (k : Int) / 26, 97 + (k : Int) % 26] = nmS k) := Lib.hid rfl
          generalize (⟨#[97]⟩ ++ strOfNums [65 + (k : Int) / 26, 97 + (k : Int) % 26] : ByteArray) = s at *
          clear hcv be1
          have HO := Lib.hid (own1.alloc (.cells (tgC (oneT s)).toArray 29))
          have hsz := bele.size
          have hbox := box_tag e1 (oneT s)
          have hml : Hid (((manyL k).length + 1) * 128 ≤ 140737488355328) := Lib.hid (by rw [manyL_len]; omega)
          simp only [tgV, tgC, oneT]
          go_wp2_with (at_builtin; refine wpList_append_tg _ rfl _ _ rfl d3.heap.size _ (manyL k) rfl HO.out _ 1 (oneT s) rfl hbox hml.out (by simp; omega) ?_; intro v1 w1 hown1 hg1)
          go_roundw
          case rel => exact ⟨k + 1, by omega, by go_num, Lib.hid (by rw [manyL_succ, ← HS.out]; exact hown1), Lib.hid (Below.tgown bele hsz own1 hg1)⟩
          case measure => simp [intOf]; omega
        · obtain rfl : k = 65 := by omega
          obtain ⟨A2, c2, rfl, row2, hle2, hmx2⟩ := hown.out.row
          rw [manyL_len] at hle2
          have n3 : (64 : Int) ≤ (c2 : Int) := by omega
          have belf := beld3.trans (hbel.out.mono beld3.size)
          clear hown hbel beld3
          rw [manyL_len]
          go_wp2_with fail
          refine (CheckAll9_any A2 65 c2 (manyL 65) _ row2 (manyL_len 65) (by omega) (manyL_ok 65)).mono ?_
          rintro e f1 ⟨rfl, bf1⟩
          rw [chk65]
          have row3 := (row2.below bf1).more bf1.size
          have belf1 := belf.trans (bf1.mono belf.size)
          clear bf1 belf row2
          go_wp2_with fail
          refine (CheckAll9_any A2 64 c2 (manyL 64) _ (by rw [← manyL_take]; exact row3.front (flatV_take _ 64)) (manyL_len 64) (by omega) (manyL_ok 64)).mono ?_
          rintro e f2 ⟨rfl, bf2⟩
          rw [chk64]
          have belf2 := belf1.trans (bf2.mono belf1.size)
          clear bf2 belf1 row3
          go_wp2_with fail
          refine (one_bel _ _).mono ?_
          rintro e f3 ⟨rfl, bf3⟩
          go_wp2_with fail
          refine (one_bel _ _).mono ?_
          rintro e f4 ⟨rfl, bf4⟩
          have belf4 := belf2.trans ((bf3.trans (bf4.mono bf3.size)).mono belf2.size)
          clear bf3 bf4 belf2
          simp only [tgV, tgC, oneT]
          have rowab := VRow.new f4 29 (flatV tgC [oneT sA, oneT sB])
          have belf5 := balB belf4 (.cells (flatV tgC [oneT sA, oneT sB]).toArray 29)
          clear belf4
          go_wp2_with fail
          refine (Find9_any _ 2 2 [oneT sA, oneT sB] _ _ rowab rfl (by omega)).mono ?_
          rintro e f5 ⟨rfl, bf5⟩
          rw [find_b]
          have row5 := (rowab.below bf5).more bf5.size
          have belf6 := belf5.trans (bf5.mono belf5.size)
          clear bf5 belf5 rowab
          go_wp2_with fail
          refine (Find9_any _ 2 2 [oneT sA, oneT sB] _ _ row5 rfl (by omega)).mono ?_
          rintro e f6 ⟨rfl, bf6⟩
          rw [find_c]
          have row6 := (row5.below bf6).more bf6.size
          have belf7 := belf6.trans (bf6.mono belf6.size)
          clear bf6 belf6 row5
          go_wp2_with fail
          refine (one_bel _ _).mono ?_
          rintro e f7 ⟨rfl, bf7⟩
          have row7 := (row6.below bf7).more bf7.size
          have belf8 := belf7.trans (bf7.mono belf7.size)
          clear bf7 belf7 row6
          go_wp2_with fail
          refine (one_bel _ _).mono ?_
          rintro e f8 ⟨rfl, bf8⟩
          have row8 := (row7.below bf8).more bf8.size
          have belf9 := belf8.trans (bf8.mono belf8.size)
          clear bf8 belf8 row7
          simp only [tgV, tgC, oneT]
          have rowcd := VRow.new f8 29 (flatV tgC [oneT sA, oneT sB])
          have row9 := row8.alloc (Nat.le_refl _) (.cells (flatV tgC [oneT sA, oneT sB]).toArray 29)
          have belf10 := balB belf9 (.cells (flatV tgC [oneT sA, oneT sB]).toArray 29)
          clear belf9 row8
          go_wp2_with fail
          refine (same_yes_tg _ _ 2 2 2 [oneT sA, oneT sB] _ _ _ row9 rowcd rfl (by omega)).mono ?_
          rintro e f9 ⟨rfl, mq, rfl⟩
          go_wp2_with fail
          refine (known9_yes _).mono ?_
          rintro e f10 ⟨rfl, bf10⟩
          go_wp2
          go_ret
          exact ⟨rfl, (below_drewN belf10 mq).trans (bf10.mono (below_drewN belf10 mq).size)⟩
end Go.Proofs.Ytmakegbkgiajdaa
