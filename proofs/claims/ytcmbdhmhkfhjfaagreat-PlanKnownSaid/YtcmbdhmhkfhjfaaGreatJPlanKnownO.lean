/-
  The statement PlanKnown of outstationlaw10 holds: for every input that can be read, the call returns true, and each argument reads as it did. No condition of its own.
-/
import Derived.Test.YtcmbdhmhkfhjfaaGreatJPlanKnownN
import Derived.Test.YtcmbdhmhkfhjfaaGreatJPlanKnownM
import Derived.Test.YtcmbdhmhkfhjfaaGreatRows
import Derived.Test.YtcmbdhmhkfhjfaaGreatJPlanKnownA
namespace Go.Proofs.YtcmbdhmhkfhjfaaGreat
open Go.RowKit
set_option linter.unusedVariables false
set_option maxRecDepth 100000
attribute [local go_sem ↓] ldTag_fold stTag_fold bxTag_fold bsTag_fold
attribute [local go_sem] bxTag_run bsTag3

theorem pv10 (A : Option Addr) (n c : Nat) (l : List Tg) (pu pk pa pc pe : Int) (Pt : Option Addr) (pn pm : Nat) (tg : List Int) (x : Int) (Bs : Option Addr) (ms es : Nat) (set : List Int) (W : World) (h1 : VRow W W.heap.size A (flatV tgC l)) (h2 : l.length = n) (h3 : n ≤ 10) (h4 : ∀ t ∈ l, Tg.Ok t) (h5 : Row .i64 W W.heap.size Pt tg) (h6 : tg.length = pn) (h7 : Row .u16 W W.heap.size Bs set) (h8 : set.length = ms) (h9 : ms ≤ es) (h10 : es ≤ 1000) (h11 : (Lit.int .i64 x).wf = true) :
    Calls Tryz.prog 3 #[.slice A n c, .agg #[.int .i64 pu, .int .i64 pk, .int .i64 pa, .int .i64 pc, .int .i64 pe, .slice Pt pn pm], .agg #[.int .i64 x, .slice none 0 0, .slice Bs ms es, .slice none 0 0]] W fun e w' => e = .returned (.bool true) ∧ Below W.heap.size W w' :=
  walk_PlanValues A n c l pu pk pa pc pe Pt pn pm tg ⟨x, [], set, []⟩ none Bs none 0 ms 0 0 es 0 W h1 h2 (by omega) h4 h5 h6 ⟨L.Row.nil _ _ _ _, h7, FRow.nil _ _ _, rfl, h8, rfl⟩ h11 (fun i hi => by omega) h9 (by omega)
theorem Only.setCell {w w' : World} {S : Nat → Prop} (h : Only w w' S) {g : Nat} (hg : S g) (i : Nat) (v : Value) : Only w (w'.setCell ⟨g, i, none⟩ v) S :=
  ⟨h.os, h.tape, h.output, by have := h.size; simpa [World.setCell] using this, fun b hb hn => (Below.heap_setCell w' ⟨g, i, none⟩ v b (by intro e; simp only at e; subst e; exact hn hg)).trans (h.block b hb hn)⟩
theorem allocs_bel (os : List Obj) : ∀ w : World, Below w.heap.size w (os.foldl World.alloc w) := by
  induction os with
  | nil => intro w; exact Below.refl _ _
  | cons o os ih =>
    intro w
    have h1 := bel_alloc w o
    exact h1.trans ((ih (w.alloc o)).mono h1.size)
theorem allocs_size (os : List Obj) : ∀ w : World, (os.foldl World.alloc w).heap.size = w.heap.size + os.length := by
  induction os with
  | nil => intro w; rfl
  | cons o os ih =>
    intro w
    show (os.foldl World.alloc (w.alloc o)).heap.size = _
    rw [ih, World.size_alloc, List.length_cons]; omega
theorem allocs_get (os : List Obj) : ∀ (w : World) (k : Nat) (o : Obj), os[k]? = some o → (os.foldl World.alloc w).heap[w.heap.size + k]? = some o := by
  induction os with
  | nil => intro w k o h; simp at h
  | cons q os ih =>
    intro w k o h
    show (os.foldl World.alloc (w.alloc q)).heap[w.heap.size + k]? = some o
    cases k with
    | zero =>
      have e : q = o := by simpa using h
      subst e
      exact ((allocs_bel os (w.alloc q)).block _ (by simp)).trans (heap_alloc_new w q)
    | succ k =>
      have := ih (w.alloc q) k o (by simpa using h)
      rw [World.size_alloc] at this
      rw [show w.heap.size + (k + 1) = w.heap.size + 1 + k by omega]
      exact this
def kvA : Tg := regT ⟨#[97]⟩ 0
def kvB : Tg := ⟨⟨#[98]⟩, 2, 3, 1, 5, false, false, false, 1, 1, 0, 0, 0, false, false, false, 0, 0, 0⟩
def kvC : Tg := ⟨⟨#[99]⟩, 1, 3, 2, 5, true, false, false, 1, 1, 0, 0, 0, false, false, false, 0, 0, 0⟩
theorem kv_ok : Tg.Ok kvA ∧ Tg.Ok kvB ∧ Tg.Ok kvC := by
  refine ⟨regT_ok (by decide) (by decide), ?_, ?_⟩ <;> (refine ⟨by decide, ?_, ?_, ?_, ?_⟩ <;> simp [kvB, kvC])
structure KV (W : World) (gc gt gr gs gl : Nat) : Prop where
  t3 : VRow W W.heap.size (some ⟨gt, 0, none⟩) (flatV tgC [kvA, kvB, kvC])
  t2 : VRow W W.heap.size (some ⟨gt, 0, none⟩) (flatV tgC [kvA, kvB])
  ws : Row .u16 W W.heap.size (some ⟨gs, 0, none⟩) [7, 8, 1, 2]
  rb : W.heap[gr]? = some (.cells #[.int .i64 0, .slice none 0 0, .slice (some ⟨gs, 0, none⟩) 4 4, .slice none 0 0] 30 (0, 0))
  cb : W.heap[gc]? = some (.cells (tgC kvC).toArray 51 (0, 0))
  pl : ∀ i, i < 7 → ∃ (A : Option Addr) (n : Nat) (li : List Int), W.cell? ⟨gl, i, none⟩ = some (.slice A n n) ∧ Row .i64 W W.heap.size A li ∧ li.length = n ∧ n ≤ 3
theorem kv_oks : ∀ t ∈ [kvA, kvB, kvC], Tg.Ok t := by
  intro t ht
  simp only [List.mem_cons, List.not_mem_nil, or_false] at ht
  have := kv_ok
  rcases ht with rfl | rfl | rfl <;> simp_all
theorem kv_valsE : valsE [kvA, kvB, kvC] ⟨1, 3, 0, 4, 0, [2, 0]⟩ ⟨0, [], [7, 8, 1, 2], []⟩ = 0 := by decide +kernel
theorem kv_valsL : valsL [kvA, kvB, kvC] ⟨1, 3, 0, 4, 0, [2, 0]⟩ ⟨0, [], [7, 8, 1, 2], []⟩ = [65538, 7] := by decide +kernel
theorem bsTag2 (x y : Tg) (W : World) : (bsTag 2 #[(0, tgV x), (1, tgV y)]).run Tryz.prog W = .ok (.slice (some ⟨W.heap.size, 0, none⟩) 2 2) (W.alloc (.cells (flatV tgC [x, y]).toArray 51)) := by
  obtain ⟨x0, x1, x2, x3, x4, x5, x6, x7, x8, x9, x10, x11, x12, x13, x14, x15, x16, x17, x18⟩ := x
  obtain ⟨y0, y1, y2, y3, y4, y5, y6, y7, y8, y9, y10, y11, y12, y13, y14, y15, y16, y17, y18⟩ := y
  kernel_rfl
attribute [local go_sem] bsTag2
set_option maxHeartbeats 8000000 in
theorem knownValues_yes (w : World) : Calls Tryz.prog 21 #[] w fun e w' => e = .returned (.bool true) ∧ Below w.heap.size w w' := by
  have H1 : Hid (∀ (s : ByteArray) (a : Int) (W : World), Calls Tryz.prog 16 #[.string s, .int .i64 a] W fun e w' => e = .returned (tgV (regT s a)) ∧ Below W.heap.size W w') := Lib.hid fun s a W => reg_any s a W
  go_enter Tryz.func21, Tryz.ntmps21
  go_wp2_with fail
  refine (H1.out _ _ _).mono ?_
  rintro e w1 ⟨rfl, b1⟩
  have B1 := Lib.hid b1
  obtain ⟨tb, htb⟩ : ∃ t, regT ⟨#[98]⟩ 1 = t := ⟨_, rfl⟩
  rw [htb]
  have hs1 := made_tag w1 tb
  have hxb := heap_alloc_new w1 (.cells (tgC tb).toArray 51)
  obtain ⟨a0, a1, a2, a3, a4⟩ := tgBox hxb
  have fa1 := block_frozen _ _ 1 _ _ hxb
  have hset : (tgC tb).set 1 (.int .i64 2) = tgC kvB := by rw [← htb]; rfl
  have bA := b1.alloc b1.size (.cells (tgC kvB).toArray 51)
  have hxB := heap_alloc_new w1 (.cells (tgC kvB).toArray 51)
  clear hxb b1
  go_wp2_with fail
  refine (H1.out _ _ _).mono ?_
  rintro e w2 ⟨rfl, b2⟩
  obtain ⟨tc, htc⟩ : ∃ t, regT ⟨#[99]⟩ 2 = t := ⟨_, rfl⟩
  rw [htc]
  have hz1 : (w1.alloc (.cells (tgC kvB).toArray 51)).heap.size = w1.heap.size + 1 := by simp
  have hl12 : w1.heap.size < w2.heap.size := by have := b2.size; omega
  have hxB2 := keepB b2 hxB
  have bC := bA.trans (b2.mono bA.size)
  clear hs1 a0 a1 a2 a3 a4 fa1 hset htb hxB bA b2 hz1
  have hs2 := made_tag w2 tc
  have hxc := heap_alloc_new w2 (.cells (tgC tc).toArray 51)
  have c5 := tgBox5 hxc
  have fc5 := block_frozen _ _ 5 _ _ hxc
  have hset : (tgC tc).set 5 (.bool true) = tgC kvC := by rw [← htc]; rfl
  have bC2 := bC.alloc bC.size (.cells (tgC kvC).toArray 51)
  have hxC := heap_alloc_new w2 (.cells (tgC kvC).toArray 51)
  have hxB3 := (heap_alloc_old w2 (.cells (tgC kvC).toArray 51) hl12).trans hxB2
  clear hxc hxB2 bC
  go_wp2
  generalize hW2 : w2.alloc (.cells (tgC kvC).toArray 51) = w2c at *
  clear hs2 c5 fc5 hset htc hW2
  have HK : Hid (∀ W : World, Below w2c.heap.size w2c W → (Below w2c.heap.size w2c W ∧ (ldTag (.pointer (some ⟨w1.heap.size, 0, none⟩))).run Tryz.prog W = .ok (tgV kvB) W ∧ (ldTag (.pointer (some ⟨w2.heap.size, 0, none⟩))).run Tryz.prog W = .ok (tgV kvC) W)) := Lib.hid fun W hb => ⟨hb, tgBox_ld (keepB hb hxB3), tgBox_ld (keepB hb hxC)⟩
  have belh : ∀ W : World, (Below w2c.heap.size w2c W ∧ (ldTag (.pointer (some ⟨w1.heap.size, 0, none⟩))).run Tryz.prog W = .ok (tgV kvB) W ∧ (ldTag (.pointer (some ⟨w2.heap.size, 0, none⟩))).run Tryz.prog W = .ok (tgV kvC) W) → Below w2c.heap.size w2c W := fun W h => h.1
  go_region_held3 (fun W => Below w2c.heap.size w2c W ∧ (ldTag (.pointer (some ⟨w1.heap.size, 0, none⟩))).run Tryz.prog W = .ok (tgV kvB) W ∧ (ldTag (.pointer (some ⟨w2.heap.size, 0, none⟩))).run Tryz.prog W = .ok (tgV kvC) W)
    ((refine HK.out _ ?_
      repeat' (first
        | with_reducible exact Below.refl _ _
        | with_reducible exact bel5
        | with_reducible exact belh _ (by assumption)
        | with_reducible apply below_drew
        | with_reducible apply below_drewN
        | with_reducible apply balB
        | fail)))
    (first
      | (go_at_call 16; have bh := belh _ (by assumption); refine (H1.out _ _ _).mono ?_; rintro e w3 ⟨rfl, b3⟩; have bel5 : Below w2c.heap.size w2c w3 := Below.trans bh (b3.mono bh.size))
      | fail)
  have hxL := heap_alloc_new w3 (.cells (flatV tgC [regT ⟨#[97]⟩ 0, kvB, kvC]).toArray 51)
  have BELL := Lib.hid (bC2.trans ((bel5.alloc bel5.size (.cells (flatV tgC [regT ⟨#[97]⟩ 0, kvB, kvC]).toArray 51)).mono bC2.size))
  have HXC := Lib.hid (keepB (bel5.alloc bel5.size (.cells (flatV tgC [regT ⟨#[97]⟩ 0, kvB, kvC]).toArray 51)) hxC)
  have HXL := Lib.hid hxL
  have HB1 := Lib.hid (B1.out.size)
  have hlB := Lib.hid hl12
  have hl23 : Hid (w2.heap.size < w3.heap.size) := Lib.hid (by have := block_lt hxC; have := bel5.size; omega)
  clear HK belh bel5 hxC hxB3 bC2 hxL b3 B1 hl12
  generalize hWL : w3.alloc (.cells (flatV tgC [regT ⟨#[97]⟩ 0, kvB, kvC]).toArray 51) = wL at *
  clear hWL
  go_wp2
  obtain ⟨wp, hwp⟩ : ∃ W, W = (((((((((((wL.alloc (.cells #[.int .i64 2, .int .i64 0] 3)).alloc (.cells #[.int .i64 1, .int .i64 3, .int .i64 0, .int .i64 4, .int .i64 0, .slice (some ⟨wL.heap.size, 0, none⟩) 2 2] 25)).alloc (.cells #[.int .u16 7, .int .u16 8, .int .u16 1, .int .u16 2] 58)).alloc (.cells #[.int .i64 0, .slice none 0 0, .slice (some ⟨wL.heap.size + 1 + 1, 0, none⟩) 4 4, .slice none 0 0] 30)).alloc (.cells #[.int .i64 0] 3)).alloc (.cells #[.int .i64 2, .int .i64 0, .int .i64 2] 3)).alloc (.cells #[.int .i64 1] 3)).alloc (.cells #[.int .i64 3] 3)).alloc (.cells #[.int .i64 (-1)] 3)).alloc (.cells #[.int .i64 0, .int .i64 1] 3)).alloc (.cells #[.slice none 0 0, .slice (some ⟨wL.heap.size + 1 + 1 + 1 + 1, 0, none⟩) 1 1, .slice (some ⟨wL.heap.size + 1 + 1 + 1 + 1 + 1, 0, none⟩) 3 3, .slice (some ⟨wL.heap.size + 1 + 1 + 1 + 1 + 1 + 1, 0, none⟩) 1 1, .slice (some ⟨wL.heap.size + 1 + 1 + 1 + 1 + 1 + 1 + 1, 0, none⟩) 1 1, .slice (some ⟨wL.heap.size + 1 + 1 + 1 + 1 + 1 + 1 + 1 + 1, 0, none⟩) 1 1, .slice (some ⟨wL.heap.size + 1 + 1 + 1 + 1 + 1 + 1 + 1 + 1 + 1, 0, none⟩) 2 2] 23)) := ⟨_, rfl⟩
  have HAL : ∀ k o, ([.cells #[.int .i64 2, .int .i64 0] 3, .cells #[.int .i64 1, .int .i64 3, .int .i64 0, .int .i64 4, .int .i64 0, .slice (some ⟨wL.heap.size, 0, none⟩) 2 2] 25, .cells #[.int .u16 7, .int .u16 8, .int .u16 1, .int .u16 2] 58, .cells #[.int .i64 0, .slice none 0 0, .slice (some ⟨wL.heap.size + 1 + 1, 0, none⟩) 4 4, .slice none 0 0] 30, .cells #[.int .i64 0] 3, .cells #[.int .i64 2, .int .i64 0, .int .i64 2] 3, .cells #[.int .i64 1] 3, .cells #[.int .i64 3] 3, .cells #[.int .i64 (-1)] 3, .cells #[.int .i64 0, .int .i64 1] 3, .cells #[.slice none 0 0, .slice (some ⟨wL.heap.size + 1 + 1 + 1 + 1, 0, none⟩) 1 1, .slice (some ⟨wL.heap.size + 1 + 1 + 1 + 1 + 1, 0, none⟩) 3 3, .slice (some ⟨wL.heap.size + 1 + 1 + 1 + 1 + 1 + 1, 0, none⟩) 1 1, .slice (some ⟨wL.heap.size + 1 + 1 + 1 + 1 + 1 + 1 + 1, 0, none⟩) 1 1, .slice (some ⟨wL.heap.size + 1 + 1 + 1 + 1 + 1 + 1 + 1 + 1, 0, none⟩) 1 1, .slice (some ⟨wL.heap.size + 1 + 1 + 1 + 1 + 1 + 1 + 1 + 1 + 1, 0, none⟩) 2 2] 23] : List Obj)[k]? = some o → wp.heap[wL.heap.size + k]? = some o := fun k o h => by rw [hwp]; exact allocs_get [.cells #[.int .i64 2, .int .i64 0] 3, .cells #[.int .i64 1, .int .i64 3, .int .i64 0, .int .i64 4, .int .i64 0, .slice (some ⟨wL.heap.size, 0, none⟩) 2 2] 25, .cells #[.int .u16 7, .int .u16 8, .int .u16 1, .int .u16 2] 58, .cells #[.int .i64 0, .slice none 0 0, .slice (some ⟨wL.heap.size + 1 + 1, 0, none⟩) 4 4, .slice none 0 0] 30, .cells #[.int .i64 0] 3, .cells #[.int .i64 2, .int .i64 0, .int .i64 2] 3, .cells #[.int .i64 1] 3, .cells #[.int .i64 3] 3, .cells #[.int .i64 (-1)] 3, .cells #[.int .i64 0, .int .i64 1] 3, .cells #[.slice none 0 0, .slice (some ⟨wL.heap.size + 1 + 1 + 1 + 1, 0, none⟩) 1 1, .slice (some ⟨wL.heap.size + 1 + 1 + 1 + 1 + 1, 0, none⟩) 3 3, .slice (some ⟨wL.heap.size + 1 + 1 + 1 + 1 + 1 + 1, 0, none⟩) 1 1, .slice (some ⟨wL.heap.size + 1 + 1 + 1 + 1 + 1 + 1 + 1, 0, none⟩) 1 1, .slice (some ⟨wL.heap.size + 1 + 1 + 1 + 1 + 1 + 1 + 1 + 1, 0, none⟩) 1 1, .slice (some ⟨wL.heap.size + 1 + 1 + 1 + 1 + 1 + 1 + 1 + 1 + 1, 0, none⟩) 2 2] 23] wL k o h
  have HBP : Hid (Below wL.heap.size wL wp) := Lib.hid (by rw [hwp]; exact allocs_bel [.cells #[.int .i64 2, .int .i64 0] 3, .cells #[.int .i64 1, .int .i64 3, .int .i64 0, .int .i64 4, .int .i64 0, .slice (some ⟨wL.heap.size, 0, none⟩) 2 2] 25, .cells #[.int .u16 7, .int .u16 8, .int .u16 1, .int .u16 2] 58, .cells #[.int .i64 0, .slice none 0 0, .slice (some ⟨wL.heap.size + 1 + 1, 0, none⟩) 4 4, .slice none 0 0] 30, .cells #[.int .i64 0] 3, .cells #[.int .i64 2, .int .i64 0, .int .i64 2] 3, .cells #[.int .i64 1] 3, .cells #[.int .i64 3] 3, .cells #[.int .i64 (-1)] 3, .cells #[.int .i64 0, .int .i64 1] 3, .cells #[.slice none 0 0, .slice (some ⟨wL.heap.size + 1 + 1 + 1 + 1, 0, none⟩) 1 1, .slice (some ⟨wL.heap.size + 1 + 1 + 1 + 1 + 1, 0, none⟩) 3 3, .slice (some ⟨wL.heap.size + 1 + 1 + 1 + 1 + 1 + 1, 0, none⟩) 1 1, .slice (some ⟨wL.heap.size + 1 + 1 + 1 + 1 + 1 + 1 + 1, 0, none⟩) 1 1, .slice (some ⟨wL.heap.size + 1 + 1 + 1 + 1 + 1 + 1 + 1 + 1, 0, none⟩) 1 1, .slice (some ⟨wL.heap.size + 1 + 1 + 1 + 1 + 1 + 1 + 1 + 1 + 1, 0, none⟩) 2 2] 23] wL)
  have HSZ : Hid (wp.heap.size = wL.heap.size + 11) := Lib.hid (by rw [hwp]; exact allocs_size [.cells #[.int .i64 2, .int .i64 0] 3, .cells #[.int .i64 1, .int .i64 3, .int .i64 0, .int .i64 4, .int .i64 0, .slice (some ⟨wL.heap.size, 0, none⟩) 2 2] 25, .cells #[.int .u16 7, .int .u16 8, .int .u16 1, .int .u16 2] 58, .cells #[.int .i64 0, .slice none 0 0, .slice (some ⟨wL.heap.size + 1 + 1, 0, none⟩) 4 4, .slice none 0 0] 30, .cells #[.int .i64 0] 3, .cells #[.int .i64 2, .int .i64 0, .int .i64 2] 3, .cells #[.int .i64 1] 3, .cells #[.int .i64 3] 3, .cells #[.int .i64 (-1)] 3, .cells #[.int .i64 0, .int .i64 1] 3, .cells #[.slice none 0 0, .slice (some ⟨wL.heap.size + 1 + 1 + 1 + 1, 0, none⟩) 1 1, .slice (some ⟨wL.heap.size + 1 + 1 + 1 + 1 + 1, 0, none⟩) 3 3, .slice (some ⟨wL.heap.size + 1 + 1 + 1 + 1 + 1 + 1, 0, none⟩) 1 1, .slice (some ⟨wL.heap.size + 1 + 1 + 1 + 1 + 1 + 1 + 1, 0, none⟩) 1 1, .slice (some ⟨wL.heap.size + 1 + 1 + 1 + 1 + 1 + 1 + 1 + 1, 0, none⟩) 1 1, .slice (some ⟨wL.heap.size + 1 + 1 + 1 + 1 + 1 + 1 + 1 + 1 + 1, 0, none⟩) 2 2] 23] wL)
  have x0 : wp.heap[wL.heap.size]? = some (.cells #[.int .i64 2, .int .i64 0] 3) := HAL 0 _ rfl
  have x1 : wp.heap[wL.heap.size + 1]? = some (.cells #[.int .i64 1, .int .i64 3, .int .i64 0, .int .i64 4, .int .i64 0, .slice (some ⟨wL.heap.size, 0, none⟩) 2 2] 25) := HAL 1 _ rfl
  have x2 : wp.heap[wL.heap.size + 1 + 1]? = some (.cells #[.int .u16 7, .int .u16 8, .int .u16 1, .int .u16 2] 58) := HAL 2 _ rfl
  have x3 : wp.heap[wL.heap.size + 1 + 1 + 1]? = some (.cells #[.int .i64 0, .slice none 0 0, .slice (some ⟨wL.heap.size + 1 + 1, 0, none⟩) 4 4, .slice none 0 0] 30) := HAL 3 _ rfl
  have x4 : wp.heap[wL.heap.size + 1 + 1 + 1 + 1]? = some (.cells #[.int .i64 0] 3) := HAL 4 _ rfl
  have x5 : wp.heap[wL.heap.size + 1 + 1 + 1 + 1 + 1]? = some (.cells #[.int .i64 2, .int .i64 0, .int .i64 2] 3) := HAL 5 _ rfl
  have x6 : wp.heap[wL.heap.size + 1 + 1 + 1 + 1 + 1 + 1]? = some (.cells #[.int .i64 1] 3) := HAL 6 _ rfl
  have x7 : wp.heap[wL.heap.size + 1 + 1 + 1 + 1 + 1 + 1 + 1]? = some (.cells #[.int .i64 3] 3) := HAL 7 _ rfl
  have x8 : wp.heap[wL.heap.size + 1 + 1 + 1 + 1 + 1 + 1 + 1 + 1]? = some (.cells #[.int .i64 (-1)] 3) := HAL 8 _ rfl
  have x9 : wp.heap[wL.heap.size + 1 + 1 + 1 + 1 + 1 + 1 + 1 + 1 + 1]? = some (.cells #[.int .i64 0, .int .i64 1] 3) := HAL 9 _ rfl
  have x10 : wp.heap[wL.heap.size + 1 + 1 + 1 + 1 + 1 + 1 + 1 + 1 + 1 + 1]? = some (.cells #[.slice none 0 0, .slice (some ⟨wL.heap.size + 1 + 1 + 1 + 1, 0, none⟩) 1 1, .slice (some ⟨wL.heap.size + 1 + 1 + 1 + 1 + 1, 0, none⟩) 3 3, .slice (some ⟨wL.heap.size + 1 + 1 + 1 + 1 + 1 + 1, 0, none⟩) 1 1, .slice (some ⟨wL.heap.size + 1 + 1 + 1 + 1 + 1 + 1 + 1, 0, none⟩) 1 1, .slice (some ⟨wL.heap.size + 1 + 1 + 1 + 1 + 1 + 1 + 1 + 1, 0, none⟩) 1 1, .slice (some ⟨wL.heap.size + 1 + 1 + 1 + 1 + 1 + 1 + 1 + 1 + 1, 0, none⟩) 2 2] 23) := HAL 10 _ rfl
  clear HAL
  rw [← hwp]
  clear hwp
  generalize hgl : wL.heap.size + 1 + 1 + 1 + 1 + 1 + 1 + 1 + 1 + 1 + 1 = gl at *
  generalize hs6 : wL.heap.size + 1 + 1 + 1 + 1 + 1 + 1 + 1 + 1 + 1 = s6 at *
  generalize hs5 : wL.heap.size + 1 + 1 + 1 + 1 + 1 + 1 + 1 + 1 = s5 at *
  generalize hs4 : wL.heap.size + 1 + 1 + 1 + 1 + 1 + 1 + 1 = s4 at *
  generalize hs3 : wL.heap.size + 1 + 1 + 1 + 1 + 1 + 1 = s3 at *
  generalize hs2 : wL.heap.size + 1 + 1 + 1 + 1 + 1 = s2 at *
  generalize hs1 : wL.heap.size + 1 + 1 + 1 + 1 = s1 at *
  generalize hgr : wL.heap.size + 1 + 1 + 1 = gr at *
  generalize hgs : wL.heap.size + 1 + 1 = gs at *
  generalize hgp : wL.heap.size + 1 = gp at *
  generalize hgi : wL.heap.size = gi at *
  have HG : Hid (wL.heap.size = gi ∧ gp = gi + 1 ∧ gs = gi + 2 ∧ gr = gi + 3 ∧ s1 = gi + 4 ∧ s2 = gi + 5 ∧ s3 = gi + 6 ∧ s4 = gi + 7 ∧ s5 = gi + 8 ∧ s6 = gi + 9 ∧ gl = gi + 10 ∧ wp.heap.size = gi + 11) := Lib.hid (by have := HSZ.out; omega)
  have HL3 : Hid (w3.heap.size < gi ∧ w2.heap.size < gi) := Lib.hid (by have h1 := block_lt HXL.out; have h2 := block_lt HXC.out; have := HG.out; omega)
  have HP0 := Lib.hid x1
  have HKW : Hid (∀ W : World, Only wp W (fun b => b = gp) → KV W w2.heap.size w3.heap.size gr gs gl) := Lib.hid (fun W hO => by
    obtain ⟨g0, g1, g2, g3, g4, g5, g6, g7, g8, g9, g10, g11⟩ := HG.out
    have hk : ∀ b o, b ≠ gp → wp.heap[b]? = some o → W.heap[b]? = some o := fun b o hne h => (hO.block b (block_lt h) hne).trans h
    have hL := hk w3.heap.size _ (by have := HL3.out; omega) ((HBP.out.block w3.heap.size HL3.out.1).trans HXL.out)
    have hC := hk w2.heap.size _ (by have := HL3.out; omega) ((HBP.out.block w2.heap.size HL3.out.2).trans HXC.out)
    have y2 := hk gs _ (by omega) x2
    have y3 := hk gr _ (by omega) x3
    have y4 := hk s1 _ (by omega) x4
    have y5 := hk s2 _ (by omega) x5
    have y6 := hk s3 _ (by omega) x6
    have y7 := hk s4 _ (by omega) x7
    have y8 := hk s5 _ (by omega) x8
    have y9 := hk s6 _ (by omega) x9
    have y10 := hk gl _ (by omega) x10
    refine ⟨(VRow.of_block hL _ (List.prefix_refl _)).more (by have := block_lt hL; omega), (VRow.of_block hL (flatV tgC [kvA, kvB]) ⟨tgC kvC, by simp [flatV, kvA]⟩).more (by have := block_lt hL; omega), (Row.of_block (l := [7, 8, 1, 2]) y2 [7, 8, 1, 2] (by decide) (List.prefix_refl _)).more (by have := block_lt y2; omega), y3, hC, fun i hi => ?_⟩
    have rr : ∀ (g : Nat) (li : List Int), W.heap[g]? = some (.cells (blk .i64 li) 3 (0, 0)) → (∀ x ∈ li, (Lit.int .i64 x).wf = true) → Row .i64 W W.heap.size (some ⟨g, 0, none⟩) li := fun g li h hw => (Row.of_block h li hw (List.prefix_refl _)).more (by have := block_lt h; omega)
    rcases i with _ | _ | _ | _ | _ | _ | _ | i
    · exact ⟨none, 0, [], cell_of_row _ _ 0 _ _ _ y10, Row.nil _ _ _ _, rfl, by omega⟩
    · exact ⟨_, 1, [0], cell_of_row _ _ 1 _ _ _ y10, rr s1 [0] y4 (by decide), rfl, by omega⟩
    · exact ⟨_, 3, [2, 0, 2], cell_of_row _ _ 2 _ _ _ y10, rr s2 [2, 0, 2] y5 (by decide), rfl, by omega⟩
    · exact ⟨_, 1, [1], cell_of_row _ _ 3 _ _ _ y10, rr s3 [1] y6 (by decide), rfl, by omega⟩
    · exact ⟨_, 1, [3], cell_of_row _ _ 4 _ _ _ y10, rr s4 [3] y7 (by decide), rfl, by omega⟩
    · exact ⟨_, 1, [-1], cell_of_row _ _ 5 _ _ _ y10, rr s5 [-1] y8 (by decide), rfl, by omega⟩
    · exact ⟨_, 2, [0, 1], cell_of_row _ _ 6 _ _ _ y10, rr s6 [0, 1] y9 (by decide), rfl, by omega⟩
    · omega)
  have HSG : Hid (gp < wp.heap.size) := Lib.hid (by have := HG.out; omega)
  clear x0 x1 x2 x3 x4 x5 x6 x7 x8 x9 x10 hgi hgp hgs hgr hs1 hs2 hs3 hs4 hs5 hs6 hgl
  go_loopw [7] (fun i wr => ∃ k : Nat, k ≤ 7 ∧ i = .int .i64 k ∧ ∃ T : Value, Hid (wr.heap[gp]? = some (.cells #[.int .i64 1, .int .i64 3, .int .i64 0, .int .i64 4, .int .i64 0, T] 25 (0, 0))) ∧ Hid (Only wp wr (fun b => b = gp))) (fun i _ => 7 - (intOf i).toNat)
  case atStart => exact ⟨0, by omega, rfl, _, HP0, Lib.hid (Only.refl _ _)⟩
  case round =>
    clear HP0
    obtain ⟨k, hk, rfl, T, hpb, hon⟩ := hrel
    by_cases hlt : k < 7
    · obtain ⟨A, n, li, hcl, hrow, hll, hn3⟩ := (HKW.out wr hon.out).pl k hlt
      obtain ⟨p0, p1, p2, p3, p4, p5⟩ := of6 hpb.out
      have f5 := block_frozen _ _ 5 _ _ hpb.out
      have hpb2 : (wr.setCell ⟨gp, 5, none⟩ (.slice A n n)).heap[gp]? = some (.cells #[.int .i64 1, .int .i64 3, .int .i64 0, .int .i64 4, .int .i64 0, .slice A n n] 25 (0, 0)) := by
        have h := hpb.out
        simp [World.setCell, Array.getElem?_modify, h]
      have hon2 := Lib.hid (Only.setCell hon.out (S := fun b => b = gp) (g := gp) rfl 5 (.slice A n n))
      have HRW2 : Hid (∃ li', Row .i64 (wr.setCell ⟨gp, 5, none⟩ (.slice A n n)) (wr.setCell ⟨gp, 5, none⟩ (.slice A n n)).heap.size A li' ∧ li'.length = n) := Lib.hid (by
        obtain ⟨A', n', li', hcl', hrow', hll', _⟩ := (HKW.out _ hon2.out).pl k hlt
        have hne : gl ≠ gp := by have := HG.out; omega
        rw [World.cell?_setCell_other _ _ _ _ (by intro e; simp only [Addr.mk.injEq] at e; omega), hcl] at hcl'
        injection hcl' with e1
        injection e1 with e1 e2 e3
        subst e1 e2
        exact ⟨li', hrow', hll'⟩)
      have k1 : (k : Int) < 7 := by omega
      have k0 : (0 : Int) ≤ k := by omega
      have kw : IntKind.i64.wrap ((k : Int) + 1) = (k : Int) + 1 := by rw [IntKind.wrap_i64]; omega
      have HPB := Lib.hid hpb2
      clear hpb2 hrow
      go_wp2
      generalize wr.setCell ⟨gp, 5, none⟩ (.slice A n n) = ws at *
      clear p0 p1 p2 p3 p4 p5 f5 hcl
      have hkv := HKW.out ws hon2.out
      clear hll
      have HV1 : Hid (∀ W : World, Below ws.heap.size ws W → Calls Tryz.prog 3 #[.slice (some ⟨w3.heap.size, 0, none⟩) 3 3, .agg #[.int .i64 1, .int .i64 3, .int .i64 0, .int .i64 4, .int .i64 0, .slice A n n], .agg #[.int .i64 0, .slice none 0 0, .slice (some ⟨gs, 0, none⟩) 4 4, .slice none 0 0]] W fun e w' => e = .returned (.bool true) ∧ Below W.heap.size W w') := Lib.hid fun W hb => by
        obtain ⟨li', hr', hl'⟩ := HRW2.out
        exact pv10 _ 3 3 [kvA, kvB, kvC] 1 3 0 4 0 A n n li' 0 (some ⟨gs, 0, none⟩) 4 4 [7, 8, 1, 2] W ((hkv.t3.below hb).more hb.size) rfl (by omega) (by intro t ht; simp only [List.mem_cons, List.not_mem_nil, or_false] at ht; have := kv_ok; rcases ht with rfl | rfl | rfl <;> simp_all) ((hr'.below hb).more hb.size) hl' ((hkv.ws.below hb).more hb.size) rfl (by omega) (by omega) (by decide)
      have HV2 : Hid (∀ W : World, Below ws.heap.size ws W → Calls Tryz.prog 3 #[.slice (some ⟨w3.heap.size, 0, none⟩) 3 3, .agg #[.int .i64 1, .int .i64 3, .int .i64 0, .int .i64 4, .int .i64 0, .slice A n n], .agg #[.int .i64 2, .slice none 0 0, .slice none 0 0, .slice none 0 0]] W fun e w' => e = .returned (.bool true) ∧ Below W.heap.size W w') := Lib.hid fun W hb => by
        obtain ⟨li', hr', hl'⟩ := HRW2.out
        exact pv10 _ 3 3 [kvA, kvB, kvC] 1 3 0 4 0 A n n li' 2 none 0 0 [] W ((hkv.t3.below hb).more hb.size) rfl (by omega) (by intro t ht; simp only [List.mem_cons, List.not_mem_nil, or_false] at ht; have := kv_ok; rcases ht with rfl | rfl | rfl <;> simp_all) ((hr'.below hb).more hb.size) hl' (Row.nil _ _ _ _) rfl (by omega) (by omega) (by decide)
      have HV3 : Hid (∀ W : World, Below ws.heap.size ws W → Calls Tryz.prog 3 #[.slice (some ⟨w3.heap.size, 0, none⟩) 2 3, .agg #[.int .i64 1, .int .i64 3, .int .i64 0, .int .i64 4, .int .i64 0, .slice A n n], .agg #[.int .i64 0, .slice none 0 0, .slice (some ⟨gs, 0, none⟩) 4 4, .slice none 0 0]] W fun e w' => e = .returned (.bool true) ∧ Below W.heap.size W w') := Lib.hid fun W hb => by
        obtain ⟨li', hr', hl'⟩ := HRW2.out
        exact pv10 _ 2 3 [kvA, kvB] 1 3 0 4 0 A n n li' 0 (some ⟨gs, 0, none⟩) 4 4 [7, 8, 1, 2] W ((hkv.t2.below hb).more hb.size) rfl (by omega) (by intro t ht; simp only [List.mem_cons, List.not_mem_nil, or_false] at ht; have := kv_ok; rcases ht with rfl | rfl <;> simp_all) ((hr'.below hb).more hb.size) hl' ((hkv.ws.below hb).more hb.size) rfl (by omega) (by omega) (by decide)
      have HVG : Hid (∀ (tn : Nat) (R : Value) (W : World), ((tn = 3 ∧ R = .agg #[.int .i64 0, .slice none 0 0, .slice (some ⟨gs, 0, none⟩) 4 4, .slice none 0 0]) ∨ (tn = 3 ∧ R = .agg #[.int .i64 2, .slice none 0 0, .slice none 0 0, .slice none 0 0]) ∨ (tn = 2 ∧ R = .agg #[.int .i64 0, .slice none 0 0, .slice (some ⟨gs, 0, none⟩) 4 4, .slice none 0 0])) → Below ws.heap.size ws W → Calls Tryz.prog 3 #[.slice (some ⟨w3.heap.size, 0, none⟩) tn 3, .agg #[.int .i64 1, .int .i64 3, .int .i64 0, .int .i64 4, .int .i64 0, .slice A n n], R] W fun e w' => e = .returned (.bool true) ∧ Below W.heap.size W w') := Lib.hid fun tn R W h hb => by
        rcases h with ⟨rfl, rfl⟩ | ⟨rfl, rfl⟩ | ⟨rfl, rfl⟩
        · exact HV1.out W hb
        · exact HV2.out W hb
        · exact HV3.out W hb
      clear HV1 HV2 HV3
      have HK : Hid (∀ W : World, Below ws.heap.size ws W → (Below ws.heap.size ws W ∧ (W.cell? ⟨gp, 0, none⟩ = some (.int .i64 1) ∧ W.cell? ⟨gp, 1, none⟩ = some (.int .i64 3) ∧ W.cell? ⟨gp, 2, none⟩ = some (.int .i64 0) ∧ W.cell? ⟨gp, 3, none⟩ = some (.int .i64 4) ∧ W.cell? ⟨gp, 4, none⟩ = some (.int .i64 0) ∧ W.cell? ⟨gp, 5, none⟩ = some (.slice A n n)) ∧ (W.cell? ⟨gr, 0, none⟩ = some (.int .i64 0) ∧ W.cell? ⟨gr, 1, none⟩ = some (.slice none 0 0) ∧ W.cell? ⟨gr, 2, none⟩ = some (.slice (some ⟨gs, 0, none⟩) 4 4) ∧ W.cell? ⟨gr, 3, none⟩ = some (.slice none 0 0)))) := Lib.hid fun W hb => ⟨hb, of6 (keepB hb HPB.out), four_of (keepB hb hkv.rb)⟩
      have belh : ∀ W : World, (Below ws.heap.size ws W ∧ (W.cell? ⟨gp, 0, none⟩ = some (.int .i64 1) ∧ W.cell? ⟨gp, 1, none⟩ = some (.int .i64 3) ∧ W.cell? ⟨gp, 2, none⟩ = some (.int .i64 0) ∧ W.cell? ⟨gp, 3, none⟩ = some (.int .i64 4) ∧ W.cell? ⟨gp, 4, none⟩ = some (.int .i64 0) ∧ W.cell? ⟨gp, 5, none⟩ = some (.slice A n n)) ∧ (W.cell? ⟨gr, 0, none⟩ = some (.int .i64 0) ∧ W.cell? ⟨gr, 1, none⟩ = some (.slice none 0 0) ∧ W.cell? ⟨gr, 2, none⟩ = some (.slice (some ⟨gs, 0, none⟩) 4 4) ∧ W.cell? ⟨gr, 3, none⟩ = some (.slice none 0 0))) → Below ws.heap.size ws W := fun W h => h.1
      clear hkv
      go_region_held3 (fun W => Below ws.heap.size ws W ∧ (W.cell? ⟨gp, 0, none⟩ = some (.int .i64 1) ∧ W.cell? ⟨gp, 1, none⟩ = some (.int .i64 3) ∧ W.cell? ⟨gp, 2, none⟩ = some (.int .i64 0) ∧ W.cell? ⟨gp, 3, none⟩ = some (.int .i64 4) ∧ W.cell? ⟨gp, 4, none⟩ = some (.int .i64 0) ∧ W.cell? ⟨gp, 5, none⟩ = some (.slice A n n)) ∧ (W.cell? ⟨gr, 0, none⟩ = some (.int .i64 0) ∧ W.cell? ⟨gr, 1, none⟩ = some (.slice none 0 0) ∧ W.cell? ⟨gr, 2, none⟩ = some (.slice (some ⟨gs, 0, none⟩) 4 4) ∧ W.cell? ⟨gr, 3, none⟩ = some (.slice none 0 0)))
        ((refine HK.out _ ?_
          repeat' (first
            | with_reducible exact Below.refl _ _
            | with_reducible exact bel5
            | with_reducible exact belh _ (by assumption)
            | with_reducible apply below_drew
            | with_reducible apply below_drewN
            | fail)))
        (first
          | (go_at_call 3; have bh := belh _ (by assumption); refine (HVG.out _ _ _ (by with_reducible first | exact Or.inl ⟨rfl, rfl⟩ | exact Or.inr (Or.inl ⟨rfl, rfl⟩) | exact Or.inr (Or.inr ⟨rfl, rfl⟩)) bh).mono ?_; rintro e w5 ⟨rfl, b5⟩; have bel5 : Below ws.heap.size ws w5 := Below.trans bh (b5.mono bh.size))
          | fail)
      have hpb5 := Lib.hid (keepB bel5 HPB.out)
      have hon5 := Lib.hid (hon2.out.below bel5)
      clear HK belh bel5 b5 HVG
      go_wp2
      go_roundw
      case rel => exact ⟨k + 1, by omega, by go_num, _, hpb5, hon5⟩
      case measure => simp [intOf]; omega
    · obtain rfl : k = 7 := by omega
      have k1 : ¬ (((7 : Nat) : Int) < 7) := by omega
      have hpa : (wr.alloc (.cells #[.int .i64 0] 3)).heap[gp]? = some (.cells #[.int .i64 1, .int .i64 3, .int .i64 0, .int .i64 4, .int .i64 0, T] 25 (0, 0)) := (heap_alloc_old wr _ (block_lt hpb.out)).trans hpb.out
      obtain ⟨p0, p1, p2, p3, p4, p5⟩ := of6 hpa
      have f5 := block_frozen _ _ 5 _ _ hpa
      have hpb2 : ((wr.alloc (.cells #[.int .i64 0] 3)).setCell ⟨gp, 5, none⟩ (.slice (some ⟨wr.heap.size, 0, none⟩) 1 1)).heap[gp]? = some (.cells #[.int .i64 1, .int .i64 3, .int .i64 0, .int .i64 4, .int .i64 0, .slice (some ⟨wr.heap.size, 0, none⟩) 1 1] 25 (0, 0)) := by
        have h := hpa
        simp only [World.setCell, Array.getElem?_modify, h]
        simp
      have hon2 := Lib.hid (Only.setCell (hon.out.below (bel_alloc wr (.cells #[.int .i64 0] 3))) (S := fun b => b = gp) (g := gp) rfl 5 (.slice (some ⟨wr.heap.size, 0, none⟩) 1 1))
      have hlz : Hid (gp < wr.heap.size) := Lib.hid (block_lt hpb.out)
      have HZ : Hid (((wr.alloc (.cells #[.int .i64 0] 3)).setCell ⟨gp, 5, none⟩ (.slice (some ⟨wr.heap.size, 0, none⟩) 1 1)).heap[wr.heap.size]? = some (.cells #[.int .i64 0] 3 (0, 0))) := Lib.hid (by
        rw [Below.heap_setCell _ ⟨gp, 5, none⟩ _ wr.heap.size (by have := hlz.out; simp only; omega)]
        exact heap_alloc_new wr _)
      have HPB := Lib.hid hpb2
      clear hpb2
      go_wp2
      generalize (wr.alloc (.cells #[.int .i64 0] 3)).setCell ⟨gp, 5, none⟩ (.slice (some ⟨wr.heap.size, 0, none⟩) 1 1) = ws at *
      generalize wr.heap.size = gz at *
      clear p0 p1 p2 p3 p4 p5 f5 hpa hpb hon k1
      have hkv := Lib.hid (HKW.out ws hon2.out)
      have HRW : Hid (Row .i64 ws ws.heap.size (some ⟨gz, 0, none⟩) [0]) := Lib.hid ((Row.of_block (l := [0]) HZ.out [0] (by decide) (List.prefix_refl _)).more (by have := block_lt HZ.out; omega))
      have HVG : Hid (∀ (pk pa pc : Int) (W : World), Below ws.heap.size ws W → Calls Tryz.prog 3 #[.slice (some ⟨w3.heap.size, 0, none⟩) 3 3, .agg #[.int .i64 1, .int .i64 pk, .int .i64 pa, .int .i64 pc, .int .i64 0, .slice (some ⟨gz, 0, none⟩) 1 1], .agg #[.int .i64 0, .slice none 0 0, .slice (some ⟨gs, 0, none⟩) 4 4, .slice none 0 0]] W fun e w' => e = .returned (.bool true) ∧ Below W.heap.size W w') := Lib.hid fun pk pa pc W hb =>
        pv10 _ 3 3 [kvA, kvB, kvC] 1 pk pa pc 0 (some ⟨gz, 0, none⟩) 1 1 [0] 0 (some ⟨gs, 0, none⟩) 4 4 [7, 8, 1, 2] W ((hkv.out.t3.below hb).more hb.size) rfl (by omega) (by intro t ht; simp only [List.mem_cons, List.not_mem_nil, or_false] at ht; have := kv_ok; rcases ht with rfl | rfl | rfl <;> simp_all) ((HRW.out.below hb).more hb.size) rfl ((hkv.out.ws.below hb).more hb.size) rfl (by omega) (by omega) (by decide)
      go_loopw [8] (fun i wr => ∃ k : Nat, k ≤ 7 ∧ i = .int .i64 ((k : Int) - 1) ∧ Hid (Below ws.heap.size ws wr)) (fun i _ => 7 - (intOf i + 1).toNat)
      case atStart => exact ⟨0, by omega, rfl, Lib.hid (Below.refl _ _)⟩
      case round =>
        obtain ⟨k, hk, rfl, hbb⟩ := hrel
        by_cases hlt : k < 7
        · have k1 : (k : Int) - 1 < 6 := by omega
          have kw : IntKind.i64.wrap ((k : Int) - 1 + 1) = (k : Int) := by rw [IntKind.wrap_i64]; omega
          have y0 := keepB hbb.out HPB.out
          have y1 := (heap_alloc_old wr (.cells #[.int .i64 1, .int .i64 3, .int .i64 0, .int .i64 ((k : Int) - 1), .int .i64 0, .slice (some ⟨gz, 0, none⟩) 1 1] 25) (block_lt y0)).trans y0
          have y2 := (heap_alloc_old (wr.alloc (.cells #[.int .i64 1, .int .i64 3, .int .i64 0, .int .i64 ((k : Int) - 1), .int .i64 0, .slice (some ⟨gz, 0, none⟩) 1 1] 25)) (.cells #[.int .i64 1, .int .i64 3, .int .i64 ((k : Int) - 1), .int .i64 4, .int .i64 0, .slice (some ⟨gz, 0, none⟩) 1 1] 25) (block_lt y1)).trans y1
          have z0 := heap_alloc_new wr (.cells #[.int .i64 1, .int .i64 3, .int .i64 0, .int .i64 4, .int .i64 0, .slice (some ⟨gz, 0, none⟩) 1 1] 25)
          have z1 := heap_alloc_new (wr.alloc (.cells #[.int .i64 1, .int .i64 3, .int .i64 0, .int .i64 ((k : Int) - 1), .int .i64 0, .slice (some ⟨gz, 0, none⟩) 1 1] 25)) (.cells #[.int .i64 1, .int .i64 3, .int .i64 0, .int .i64 4, .int .i64 0, .slice (some ⟨gz, 0, none⟩) 1 1] 25)
          have z2 := heap_alloc_new ((wr.alloc (.cells #[.int .i64 1, .int .i64 3, .int .i64 0, .int .i64 ((k : Int) - 1), .int .i64 0, .slice (some ⟨gz, 0, none⟩) 1 1] 25)).alloc (.cells #[.int .i64 1, .int .i64 3, .int .i64 ((k : Int) - 1), .int .i64 4, .int .i64 0, .slice (some ⟨gz, 0, none⟩) 1 1] 25)) (.cells #[.int .i64 1, .int .i64 3, .int .i64 0, .int .i64 4, .int .i64 0, .slice (some ⟨gz, 0, none⟩) 1 1] 25)
          obtain ⟨a0, a1, a2, a3, a4, a5⟩ := of6 y0
          obtain ⟨b0, b1, b2, b3, b4, b5⟩ := of6 y1
          obtain ⟨c0, c1, c2, c3, c4, c5⟩ := of6 y2
          have d3 := (of6 z0).2.2.2.1
          have d2 := (of6 z1).2.2.1
          have d1 := (of6 z2).2.1
          have f3 := block_frozen _ _ 3 _ _ z0
          have f2 := block_frozen _ _ 2 _ _ z1
          have f1 := block_frozen _ _ 1 _ _ z2
          simp only [World.size_alloc] at d2 d1 f2 f1
          have hw1 := heap_alloc_new wr (.cells #[.int .i64 1, .int .i64 3, .int .i64 0, .int .i64 ((k : Int) - 1), .int .i64 0, .slice (some ⟨gz, 0, none⟩) 1 1] 25)
          have hw2 := heap_alloc_new (wr.alloc (.cells #[.int .i64 1, .int .i64 3, .int .i64 0, .int .i64 ((k : Int) - 1), .int .i64 0, .slice (some ⟨gz, 0, none⟩) 1 1] 25)) (.cells #[.int .i64 1, .int .i64 3, .int .i64 ((k : Int) - 1), .int .i64 4, .int .i64 0, .slice (some ⟨gz, 0, none⟩) 1 1] 25)
          have hw3 := Lib.hid (heap_alloc_new ((wr.alloc (.cells #[.int .i64 1, .int .i64 3, .int .i64 0, .int .i64 ((k : Int) - 1), .int .i64 0, .slice (some ⟨gz, 0, none⟩) 1 1] 25)).alloc (.cells #[.int .i64 1, .int .i64 3, .int .i64 ((k : Int) - 1), .int .i64 4, .int .i64 0, .slice (some ⟨gz, 0, none⟩) 1 1] 25)) (.cells #[.int .i64 1, .int .i64 ((k : Int) - 1), .int .i64 0, .int .i64 4, .int .i64 0, .slice (some ⟨gz, 0, none⟩) 1 1] 25))
          have hw2' := Lib.hid ((heap_alloc_old ((wr.alloc (.cells #[.int .i64 1, .int .i64 3, .int .i64 0, .int .i64 ((k : Int) - 1), .int .i64 0, .slice (some ⟨gz, 0, none⟩) 1 1] 25)).alloc (.cells #[.int .i64 1, .int .i64 3, .int .i64 ((k : Int) - 1), .int .i64 4, .int .i64 0, .slice (some ⟨gz, 0, none⟩) 1 1] 25)) (.cells #[.int .i64 1, .int .i64 ((k : Int) - 1), .int .i64 0, .int .i64 4, .int .i64 0, .slice (some ⟨gz, 0, none⟩) 1 1] 25) (block_lt hw2)).trans hw2)
          have hw1' := Lib.hid ((heap_alloc_old ((wr.alloc (.cells #[.int .i64 1, .int .i64 3, .int .i64 0, .int .i64 ((k : Int) - 1), .int .i64 0, .slice (some ⟨gz, 0, none⟩) 1 1] 25)).alloc (.cells #[.int .i64 1, .int .i64 3, .int .i64 ((k : Int) - 1), .int .i64 4, .int .i64 0, .slice (some ⟨gz, 0, none⟩) 1 1] 25)) (.cells #[.int .i64 1, .int .i64 ((k : Int) - 1), .int .i64 0, .int .i64 4, .int .i64 0, .slice (some ⟨gz, 0, none⟩) 1 1] 25) (by have := block_lt hw1; simp only [World.size_alloc] at this ⊢; omega)).trans ((heap_alloc_old (wr.alloc (.cells #[.int .i64 1, .int .i64 3, .int .i64 0, .int .i64 ((k : Int) - 1), .int .i64 0, .slice (some ⟨gz, 0, none⟩) 1 1] 25)) (.cells #[.int .i64 1, .int .i64 3, .int .i64 ((k : Int) - 1), .int .i64 4, .int .i64 0, .slice (some ⟨gz, 0, none⟩) 1 1] 25) (block_lt hw1)).trans hw1))
          have hbv := Lib.hid (((hbb.out.alloc hbb.out.size (.cells #[.int .i64 1, .int .i64 3, .int .i64 0, .int .i64 ((k : Int) - 1), .int .i64 0, .slice (some ⟨gz, 0, none⟩) 1 1] 25)).alloc (hbb.out.alloc hbb.out.size (.cells #[.int .i64 1, .int .i64 3, .int .i64 0, .int .i64 ((k : Int) - 1), .int .i64 0, .slice (some ⟨gz, 0, none⟩) 1 1] 25)).size (.cells #[.int .i64 1, .int .i64 3, .int .i64 ((k : Int) - 1), .int .i64 4, .int .i64 0, .slice (some ⟨gz, 0, none⟩) 1 1] 25)).alloc ((hbb.out.alloc hbb.out.size (.cells #[.int .i64 1, .int .i64 3, .int .i64 0, .int .i64 ((k : Int) - 1), .int .i64 0, .slice (some ⟨gz, 0, none⟩) 1 1] 25)).alloc (hbb.out.alloc hbb.out.size (.cells #[.int .i64 1, .int .i64 3, .int .i64 0, .int .i64 ((k : Int) - 1), .int .i64 0, .slice (some ⟨gz, 0, none⟩) 1 1] 25)).size (.cells #[.int .i64 1, .int .i64 3, .int .i64 ((k : Int) - 1), .int .i64 4, .int .i64 0, .slice (some ⟨gz, 0, none⟩) 1 1] 25)).size (.cells #[.int .i64 1, .int .i64 ((k : Int) - 1), .int .i64 0, .int .i64 4, .int .i64 0, .slice (some ⟨gz, 0, none⟩) 1 1] 25))
          clear y0 y1 y2 z0 z1 z2 hw1 hw2
          obtain ⟨e0, e1, e2, e3, e4, e5⟩ := of6 hw1'.out
          obtain ⟨r0, r1, r2, r3⟩ := four_of (keepB hbv.out hkv.out.rb)
          go_wp2_with fail
          have hgz : Hid (((wr.alloc (.cells #[.int .i64 1, .int .i64 3, .int .i64 0, .int .i64 ((k : Int) - 1), .int .i64 0, .slice (some ⟨gz, 0, none⟩) 1 1] 25)).alloc (.cells #[.int .i64 1, .int .i64 3, .int .i64 ((k : Int) - 1), .int .i64 4, .int .i64 0, .slice (some ⟨gz, 0, none⟩) 1 1] 25)).heap.size = wr.heap.size + 1 + 1 ∧ (wr.alloc (.cells #[.int .i64 1, .int .i64 3, .int .i64 0, .int .i64 ((k : Int) - 1), .int .i64 0, .slice (some ⟨gz, 0, none⟩) 1 1] 25)).heap.size = wr.heap.size + 1) := Lib.hid ⟨by simp only [World.size_alloc], by simp only [World.size_alloc]⟩
          rw [hgz.out.1] at hw3
          rw [hgz.out.2] at hw2'
          clear a0 a1 a2 a3 a4 a5 b0 b1 b2 b3 b4 b5 c0 c1 c2 c3 c4 c5 d1 d2 d3 f1 f2 f3 e0 e1 e2 e3 e4 e5 r0 r1 r2 r3 hgz
          generalize ((wr.alloc (.cells #[.int .i64 1, .int .i64 3, .int .i64 0, .int .i64 ((k : Int) - 1), .int .i64 0, .slice (some ⟨gz, 0, none⟩) 1 1] 25)).alloc (.cells #[.int .i64 1, .int .i64 3, .int .i64 ((k : Int) - 1), .int .i64 4, .int .i64 0, .slice (some ⟨gz, 0, none⟩) 1 1] 25)).alloc (.cells #[.int .i64 1, .int .i64 ((k : Int) - 1), .int .i64 0, .int .i64 4, .int .i64 0, .slice (some ⟨gz, 0, none⟩) 1 1] 25) = wv at *
          generalize wr.heap.size + 1 + 1 = g11 at *
          generalize wr.heap.size + 1 = g10 at *
          generalize wr.heap.size = g9 at *
          refine (HVG.out _ _ _ _ hbv.out).mono ?_
          rintro e w5 ⟨rfl, b5⟩
          have n5 := keepB b5 hw2'.out
          have m5 := Lib.hid (keepB b5 hw3.out)
          have bel5 := Lib.hid (hbv.out.trans (b5.mono hbv.out.size))
          obtain ⟨e0, e1, e2, e3, e4, e5⟩ := of6 n5
          obtain ⟨r0, r1, r2, r3⟩ := four_of (keepB bel5.out hkv.out.rb)
          clear n5
          go_wp2_with fail
          refine (HVG.out _ _ _ _ bel5.out).mono ?_
          rintro e w6 ⟨rfl, b6⟩
          have m6 := keepB b6 m5.out
          have bel6 := Lib.hid (bel5.out.trans (b6.mono bel5.out.size))
          clear e0 e1 e2 e3 e4 e5 r0 r1 r2 r3
          obtain ⟨e0, e1, e2, e3, e4, e5⟩ := of6 m6
          obtain ⟨r0, r1, r2, r3⟩ := four_of (keepB bel6.out hkv.out.rb)
          clear m6
          go_wp2_with fail
          refine (HVG.out _ _ _ _ bel6.out).mono ?_
          rintro e w7 ⟨rfl, b7⟩
          have bel7 := Lib.hid (bel6.out.trans (b7.mono bel6.out.size))
          go_wp2
          go_roundw
          case rel => exact ⟨k + 1, by omega, by go_num, bel7⟩
          case measure => simp [intOf]; omega
        · obtain rfl : k = 7 := by omega
          have k1 : ¬ (((7 : Nat) : Int) - 1 < 6) := by omega
          have hq0 := Lib.hid (hbb.out.alloc hbb.out.size (.cells #[.int .i64 2, .int .i64 0] 3))
          have hqn := Lib.hid (heap_alloc_new wr (.cells #[.int .i64 2, .int .i64 0] 3))
          obtain ⟨r0, r1, r2, r3⟩ := four_of (keepB hq0.out hkv.out.rb)
          go_wp2_with fail
          clear r0 r1 r2 r3
          generalize wr.alloc (.cells #[.int .i64 2, .int .i64 0] 3) = wq at *
          generalize wr.heap.size = g20 at *
          have HVV := Values10_any (some ⟨w3.heap.size, 0, none⟩) 3 3 [kvA, kvB, kvC] 1 3 0 4 0 (some ⟨g20, 0, none⟩) 2 2 [2, 0] none (some ⟨gs, 0, none⟩) none 0 4 0 0 4 0 ⟨0, [], [7, 8, 1, 2], []⟩ wq ((hkv.out.t3.below hq0.out).more hq0.out.size) rfl (by omega) kv_oks ((Row.of_block (l := [2, 0]) hqn.out [2, 0] (by decide) (List.prefix_refl _)).more (by have := block_lt hqn.out; omega)) rfl (by omega) ⟨L.Row.nil _ _ _ _, ((hkv.out.ws.below hq0.out).more hq0.out.size), FRow.nil _ _ _, rfl, rfl, rfl⟩ (by omega) (by omega) (by decide)
          rw [kv_valsE, kv_valsL] at HVV
          refine HVV.mono ?_
          clear HVV
          rintro e w5 ⟨v, rfl, ko, b5⟩
          obtain ⟨Av, cv, rfl, rowv, hcv, hcm⟩ := ko.row (by decide)
          have hw5 := Lib.hid (hq0.out.trans (b5.mono hq0.out.size))
          clear b5 ko hcm
          have RV := Lib.hid rowv
          clear rowv
          have bSI := Lib.hid (bel_alloc w5 (.cells #[.int .i64 65538, .int .i64 7] 3))
          have nSI := Lib.hid (heap_alloc_new w5 (.cells #[.int .i64 65538, .int .i64 7] 3))
          go_wp2_with fail
          generalize w5.alloc (.cells #[.int .i64 65538, .int .i64 7] 3) = w6 at *
          generalize hg5 : w5.heap.size = g5 at *
          refine (I.same_yes_i64 Av (some ⟨g5, 0, none⟩) 2 cv 2 [65538, 7] w6 g5 w6.heap.size (RV.out.below bSI.out) ((Row.of_block (l := [65538, 7]) nSI.out [65538, 7] (by decide) (List.prefix_refl _)).more (by have := block_lt nSI.out; omega)) rfl (by omega)).mono ?_
          rintro e w7 ⟨rfl, m7, rfl⟩
          have hw7 := Lib.hid (hw5.out.trans ((below_drewN bSI.out m7).mono (by have := hw5.out.size; omega)))
          clear bSI nSI hw5 RV hg5
          generalize w6.drewN m7 = w7 at *
          have b8 := Lib.hid (hw7.out.alloc hw7.out.size (.cells #[.int .u16 1, .int .u16 2, .int .u16 3] 58))
          have n8 := Lib.hid (heap_alloc_new w7 (.cells #[.int .u16 1, .int .u16 2, .int .u16 3] 58))
          go_wp2_with fail
          generalize w7.alloc (.cells #[.int .u16 1, .int .u16 2, .int .u16 3] 58) = w8 at *
          generalize w7.heap.size = g7 at *
          refine (walk_PlanReads (some ⟨w3.heap.size, 0, none⟩) 3 3 [kvA, kvB, kvC] (some ⟨g7, 0, none⟩) 3 3 [1, 2, 3] w8 ((hkv.out.t3.below b8.out).more b8.out.size) rfl (by omega) kv_oks ((Row.of_block (l := [1, 2, 3]) n8.out [1, 2, 3] (by decide) (List.prefix_refl _)).more (by have := block_lt n8.out; omega)) rfl (by omega)).mono ?_
          rintro e w9 ⟨rfl, b9⟩
          have hw9 := Lib.hid (b8.out.trans (b9.mono b8.out.size))
          clear b8 n8 b9 hw7
          have b10 := Lib.hid (hw9.out.alloc hw9.out.size (.cells #[.int .u16 1] 58))
          have n10 := Lib.hid (heap_alloc_new w9 (.cells #[.int .u16 1] 58))
          go_wp2_with fail
          generalize w9.alloc (.cells #[.int .u16 1] 58) = w10 at *
          generalize w9.heap.size = g9 at *
          refine (walk_PlanReads none 0 0 [] (some ⟨g9, 0, none⟩) 1 1 [1] w10 (VRow.nil _ _ _) rfl (by omega) (by intro t ht; cases ht) ((Row.of_block (l := [1]) n10.out [1] (by decide) (List.prefix_refl _)).more (by have := block_lt n10.out; omega)) rfl (by omega)).mono ?_
          rintro e w11 ⟨rfl, b11⟩
          have hw11 := Lib.hid (b10.out.trans (b11.mono b10.out.size))
          clear b10 n10 b11 hw9
          have hld := tgBox_ld (keepB hw11.out hkv.out.cb)
          have b12 := Lib.hid (hw11.out.alloc hw11.out.size (.cells (flatV tgC [kvC, kvC]).toArray 51))
          have n12 := Lib.hid (heap_alloc_new w11 (.cells (flatV tgC [kvC, kvC]).toArray 51))
          obtain ⟨r0, r1, r2, r3⟩ := four_of (keepB b12.out hkv.out.rb)
          obtain ⟨p0, p1, p2, p3, p4, p5⟩ := of6 (keepB b12.out HPB.out)
          go_wp2_with fail
          clear hld r0 r1 r2 r3 p0 p1 p2 p3 p4 p5
          generalize w11.alloc (.cells (flatV tgC [kvC, kvC]).toArray 51) = w12 at *
          generalize w11.heap.size = g11 at *
          refine (pv10 (some ⟨g11, 0, none⟩) 2 2 [kvC, kvC] 1 3 0 4 0 (some ⟨gz, 0, none⟩) 1 1 [0] 0 (some ⟨gs, 0, none⟩) 4 4 [7, 8, 1, 2] w12 ((VRow.of_block n12.out _ (List.prefix_refl _)).more (by have := block_lt n12.out; omega)) rfl (by omega) (by intro t ht; simp only [List.mem_cons, List.not_mem_nil, or_false, or_self] at ht; subst ht; exact kv_ok.2.2) ((HRW.out.below b12.out).more b12.out.size) rfl ((hkv.out.ws.below b12.out).more b12.out.size) rfl (by omega) (by omega) (by decide)).mono ?_
          rintro e w13 ⟨rfl, b13⟩
          have hw13 := Lib.hid (b12.out.trans (b13.mono b12.out.size))
          have hB0 : w.heap.size ≤ gi := by have := BELL.out.size; have := HG.out; omega
          have HEND := Lib.hid ((BELL.out.trans (HBP.out.mono hB0)).trans (((hon2.out.bel (B := w.heap.size) (by have := HG.out; omega) (by rintro b rfl; have := HG.out; omega))).trans (hw13.out.mono (by have := hon2.out.size; have := HG.out; omega))))
          go_wp2
          refine ⟨rfl, .bool true, ?_, rfl, HEND.out⟩
          first | rfl | kernel_rfl | simp [results, Tryz.f21]
end Go.Proofs.YtcmbdhmhkfhjfaaGreat
namespace Go.Proofs.YtcmbdhmhkfhjfaaGreat
open Go.RowKit
set_option linter.unusedVariables false
set_option maxRecDepth 100000

theorem three_polls : Three10 17 := fun a b c W ha hb hc =>
  (walk_PlanPolls (some ⟨W.heap.size, 0, none⟩) 3 3 [a, b, c] (W.alloc (.cells (flatV tgC [a, b, c]).toArray 51)) (VRow.new W 51 (flatV tgC [a, b, c])) rfl (by omega) (tags3_ok ha hb hc)).mono fun e w' h => ⟨h.1, (bel_alloc W _).trans (h.2.mono (by rw [World.size_alloc]; omega))⟩
theorem three_covers : Three10 18 := fun a b c W ha hb hc =>
  (walk_PlanCovers (some ⟨W.heap.size, 0, none⟩) 3 3 [a, b, c] (W.alloc (.cells (flatV tgC [a, b, c]).toArray 51)) (VRow.new W 51 (flatV tgC [a, b, c])) rfl (by omega) (tags3_ok ha hb hc)).mono fun e w' h => ⟨h.1, (bel_alloc W _).trans (h.2.mono (by rw [World.size_alloc]; omega))⟩
theorem three_few : Three10 19 := fun a b c W ha hb hc =>
  (walk_PlanFew (some ⟨W.heap.size, 0, none⟩) 3 3 [a, b, c] (W.alloc (.cells (flatV tgC [a, b, c]).toArray 51)) (VRow.new W 51 (flatV tgC [a, b, c])) rfl (by omega) (tags3_ok ha hb hc)).mono fun e w' h => ⟨h.1, (bel_alloc W _).trans (h.2.mono (by rw [World.size_alloc]; omega))⟩
theorem walk_PlanKnown (w : World) : Calls Tryz.prog 4 #[] w fun e w' => e = .returned (.bool true) ∧ Below w.heap.size w w' :=
  known10_loops (Lib.hid three_polls) (Lib.hid three_covers) (Lib.hid three_few) (Lib.hid knownValues_yes) w
end Go.Proofs.YtcmbdhmhkfhjfaaGreat
namespace Go.Proofs.YtcmbdhmhkfhjfaaGreat.planKnown
open Go.ChangeShapes Go.WideShapes Go.ChangeAt Go.RowKit
open Go.ChangeMaps (open_string shut_string)
set_option linter.unusedVariables false

theorem own : ownKnob Tryz.prog.godebug = none := by kernel_rfl
theorem laidOut : laidOutB Tryz.prog = true := by kernel_rfl

set_option maxRecDepth 100000 in
theorem lifted (os : Os) (started : os.Started) (H : Type) (enc : TypeId × Value → H) :
    ReturnsInHanded {} Tryz.checked os 4 .any (Rows.planKnownSpec.pre6 enc Tryz.prog Tryz.f4 Rows.planKnownRow.domain false) (Rows.planKnownSpec.post enc Tryz.prog Tryz.f4 false true false false) := by
  refine returnsInHanded_of_change_sized (C := Tryz.checked) own started (by kernel_rfl) Tryz.func4
    (ChangeSpec.witness6 (enc := enc) (C := Tryz.checked) false ⟨#[], #[], []⟩ 8 (by kernel_rfl) (by kernel_rfl) (by kernel_rfl) (by kernel_rfl)) ?_
  intro W base args ds gs before hval0 hW hcnd hsz0 _
  have hsz : (DataW.weightsEach Tryz.prog (Tryz.f4.params.toList ++ Rows.planKnownSpec.plain.varTypes Tryz.prog) (ds ++ gs)).all (· ≤ reachBytes) = true := hsz0
  clear hsz0
  have hval : ∀ (j : Nat) t v, Tryz.f4.params[j]? = some t → args[j]? = some v → Value.okWide Tryz.prog W .any base t v := hval0
  have hW' := hW
  obtain ⟨p, q, hA0, hV, rfl, hfz, hnd⟩ := hW
  have hA : DataW.TrodAll enc Tryz.prog W 0 (fun _ => true) true Tryz.f4.params.toList args.toList ds p := hA0
  rw [Tryz.params4] at hA hval hsz
  obtain ⟨rfl, rfl, hargs⟩ := trodAll_none hA
  obtain ⟨rfl, rfl⟩ := trodVars_none hV
  clear hA0 hval0
  refine (walk_PlanKnown  W ).mono fun e W' ⟨he, bel⟩ => ?_
  subst he
  exact ⟨_, rfl, _, _, _, [], _, [], hW', trodAll_mk1 (shut_bool Tryz.underlying4 _), trodAll_mk0, rfl, bel.frame _, fun h => by cases h⟩

theorem over : Rows.planKnownRow.holds Tryz.pinned (OpenSpec.ofChange Rows.planKnownSpec) :=
  OpenClaim.holds_of_wide 4 Tryz.f4 rfl rfl rfl rfl rfl rfl rfl ⟨rfl, rfl, rfl, rfl, rfl⟩ rfl rfl rfl rfl rfl (by kernel_rfl) Tryz.func4 (by kernel_rfl)
    (of_decide_eq_true (by kernel_rfl)) (by unfold Func.isWrapper; first | (rw [if_pos (by decide +kernel)]; kernel_rfl) | (rw [if_neg (by decide +kernel)]; exact ⟨rfl, rfl⟩))
    (fun os started H enc _ => lifted os started H enc)

theorem proved : Rows.PlanKnownSaid := over
#print axioms proved
end Go.Proofs.YtcmbdhmhkfhjfaaGreat.planKnown
