/-
  The walk of TagsTables.
-/
import Derived.Test.YtmakegbkgiajdaaTgProg
import Derived.Test.YtmakegbkgiajdaaTgKit
namespace Go.Proofs.Ytmakegbkgiajdaa
open Go.RowKit
set_option linter.unusedVariables false

set_option maxHeartbeats 1000000 in
theorem walk_TagsTables (A : Option Addr) (n c : Nat) (l : List Tg) (s : ByteArray) (w : World) (hr : VRow w w.heap.size A (flatV tgC l)) (hn : l.length = n) (hok : ∀ t ∈ l, Tg.Ok t) (hle : n ≤ c) (hm : c * 128 ≤ 140737488351232) (hs : s.size ≤ maxLen) :
    Calls Try.prog 4 #[.slice A n c, .string s] w fun e w' => e = .returned (.bool true) ∧ Below w.heap.size w w' := by
  have HOK := Lib.hid hok
  have HN := Lib.hid hn
  obtain ⟨⟨ce, ck⟩, hc⟩ : ∃ r, chkAll l = r := ⟨_, rfl⟩
  obtain ⟨fk, hf⟩ : ∃ r, findT l s = r := ⟨_, rfl⟩
  have HC := Lib.hid hc
  have HF := Lib.hid hf
  have hb5 : (n + 5) * 128 ≤ 140737488355328 := by omega
  have hb1 : n ≤ 4611686018427387904 := by omega
  have hb2 : n ≤ 1152921504606846976 := by omega
  clear hok hn hc hf
  go_enter Try.func4, Try.ntmps4
  go_wp2_with fail
  refine (lent_tg A n c l w hr HN.out hb5).mono ?_
  rintro e w' ⟨rfl, rfl⟩
  have hg := heap_alloc_new w (.cells (flatV tgC (l ++ marksG)).toArray 29)
  have bel := bel_alloc w (.cells (flatV tgC (l ++ marksG)).toArray 29)
  generalize w.alloc (.cells (flatV tgC (l ++ marksG)).toArray 29) = w1 at *
  have rowL : ∀ W : World, W.heap[w.heap.size]? = some (.cells (flatV tgC (l ++ marksG)).toArray 29 (0, 0)) → VRow W W.heap.size (some ⟨w.heap.size, 0, none⟩) (flatV tgC l) := fun W h => VRow.of_block h _ (by rw [flatV_append]; exact List.prefix_append _ _)
  have RL := Lib.hid rowL
  clear rowL
  have hr1 := (hr.below bel)
  go_wp2_with fail
  refine (CheckAll9_any _ n (n + 5) l w1 (RL.out _ hg) HN.out hb1 HOK.out).mono ?_
  rintro e w2 ⟨rfl, b2⟩
  rw [HC.out]
  have hg2 := keepB b2 hg
  have bel2 := bel.trans (b2.mono bel.size)
  have hr2 := hr.below bel2
  clear hg bel hr1 b2
  go_wp2_with fail
  refine (refCheckAll_any A n c l w2 (hr2.more bel2.size) HN.out hb1 HOK.out).mono ?_
  rintro e w3 ⟨rfl, b3⟩
  rw [HC.out]
  have hg3 := keepB b3 hg2
  have bel3 := bel2.trans (b3.mono bel2.size)
  have hr3 := hr.below bel3
  clear hg2 bel2 hr2 b3
  go_wp2_with fail
  refine (Find9_any _ n (n + 5) l s w3 (RL.out _ hg3) HN.out hb1).mono ?_
  rintro e w4 ⟨rfl, b4⟩
  rw [HF.out]
  have hg4 := keepB b4 hg3
  have bel4 := bel3.trans (b4.mono bel3.size)
  have hr4 := hr.below bel4
  clear hg3 bel3 hr3 b4
  go_wp2_with fail
  refine (refFind_any A n c l s w4 _ hr4 HN.out hb1).mono ?_
  rintro e w' ⟨rfl, rfl⟩
  rw [HF.out]
  go_wp2_with fail
  refine (kept_tg A n c w.heap.size l _ _ hr4 HN.out hb2 hg4).mono ?_
  rintro e w' ⟨rfl, m, rfl⟩
  go_wp2
  go_ret
  exact ⟨rfl, below_drewN bel4 m⟩
end Go.Proofs.Ytmakegbkgiajdaa
