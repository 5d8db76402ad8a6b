/-
  Contracts of band and works of the statements of layer 8.
-/
import Derived.Test.YtlbblddpfijciaaAlProg
import Derived.Deep.RegionHeld3
import Derived.Deep.CutRange
namespace Go.Proofs.Ytlbblddpfijciaa
open Go.RowKit
set_option linter.unusedVariables false

theorem band8_any (w : World) : Calls Try.prog 18 #[] w fun e w' => e = .returned (.agg #[.bool true, .bool true, .bool false, .int .i64 10, .int .i64 20, .int .i64 2]) ∧ Below w.heap.size w w' := by
  go_enter Try.func18, Try.ntmps18
  go_wp2
  (try simp only [Exit.inBlock, Exit.then])
  refine bodyPost_ret (v := .agg #[.bool true, .bool true, .bool false, .int .i64 10, .int .i64 20, .int .i64 2]) (by simp [results, Try.results18, go_sem, *]) rfl ?_
  exact ⟨rfl, bel_alloc _ _⟩
theorem Step8_lit (ul uh la : Bool) (lo hi hy : Int) (st : Int) (wt : Bool) (v s' : Int) (t' : Bool) (n : Int) (w : World) (h : stepA ⟨ul, uh, la, lo, hi, hy⟩ ⟨st, wt⟩ v = (⟨s', t'⟩, n)) : Calls Try.prog 10 #[.agg #[.bool ul, .bool uh, .bool la, .int .i64 lo, .int .i64 hi, .int .i64 hy], .agg #[.int .i64 st, .bool wt], .int .i64 v] w fun e w' => e = .returned (.tuple #[.agg #[.int .i64 s', .bool t'], .int .i64 n]) ∧ Below w.heap.size w w' := by
  have := Step8_any ul uh la lo hi hy st wt v w
  rw [h] at this
  exact this

set_option maxHeartbeats 2000000 in
theorem works8_yes (w : World) : Calls Try.prog 16 #[] w fun e w' => e = .returned (.bool true) ∧ Below w.heap.size w w' := by
  go_enter Try.func16, Try.ntmps16
  go_wp2_with fail
  refine (band8_any _).mono ?_
  rintro e w1 ⟨rfl, bel1⟩
  go_wp2_with fail
  refine (Step8_lit true true false 10 20 2 0 false 10 1 true 1 _ (by decide +kernel)).mono ?_
  rintro e w2 ⟨rfl, b2⟩
  have bel2 := bel1.trans (b2.mono bel1.size)
  have hx1 := heap_alloc_new w2 (.cells #[.int .i64 1, .bool true] 25)
  have bel3 := bel2.alloc bel2.size (.cells #[.int .i64 1, .bool true] 25)
  clear bel1 b2 bel2
  go_upto_region 2 with fail
  generalize w2.alloc (.cells #[.int .i64 1, .bool true] 25) = wk at *
  generalize w2.heap.size = g1 at *
  have HK : Hid (∀ w' : World, Below wk.heap.size wk w' → (Below wk.heap.size wk w' ∧ w'.cell? ⟨g1, 0, none⟩ = some (.int .i64 1) ∧ w'.cell? ⟨g1, 1, none⟩ = some (.bool true))) := Lib.hid fun w' hw => ⟨hw, of2 ((hw.block _ (block_lt hx1)).trans hx1)⟩
  have belh : ∀ w' : World, (Below wk.heap.size wk w' ∧ w'.cell? ⟨g1, 0, none⟩ = some (.int .i64 1) ∧ w'.cell? ⟨g1, 1, none⟩ = some (.bool true)) → Below wk.heap.size wk w' := fun w' h => h.1
  go_cut [3, 4] from 7 to 57 (fun s n wx => ∃ g, s = .pointer (some ⟨g, 0, none⟩) ∧ n = .int .i64 0 ∧ Hid (wx.heap[g]? = some (.cells #[.int .i64 1, .bool true] 25 (0, 0)) ∧ Below wk.heap.size wk wx))
  case first =>
    go_wp2
    go_region_held3 (fun w' => Below wk.heap.size wk w' ∧ w'.cell? ⟨g1, 0, none⟩ = some (.int .i64 1) ∧ w'.cell? ⟨g1, 1, none⟩ = some (.bool true))
      ((refine HK.out _ ?_
        repeat' (first
          | with_reducible exact Below.refl _ _
          | with_reducible exact bel6
          | with_reducible exact bel5
          | with_reducible exact belh _ (by assumption)
          | with_reducible apply below_drew
          | with_reducible apply below_drewN
          | with_reducible apply balB
          | with_reducible refine bsetB _ _ ?_ (Nat.le_refl _)
          | with_reducible refine bsetB _ _ ?_ (Below.size (by first | exact bel6 | exact bel5 | exact belh _ (by assumption)))
          | fail)))
      (first
        | (go_at_call 18; refine (band8_any _).mono ?_; rintro e w5 ⟨rfl, b5⟩; have bel5 : Below wk.heap.size wk w5 := Below.trans (belh _ (by assumption)) (b5.mono (Below.size (belh _ (by assumption)))); (try (have hbA := (b5.block wk.heap.size (by simp)).trans (by first | exact heap_alloc_new wk (.cells #[.int .i64 0, .bool false] 25) | exact heap_alloc_new wk.drew (.cells #[.int .i64 0, .bool false] 25) | exact heap_alloc_new (wk.drewN _) (.cells #[.int .i64 0, .bool false] 25)))))
        | (go_at_call 10; refine (Step8_lit true true false 10 20 2 1 true 12 1 true 0 _ (by decide +kernel)).mono ?_; rintro e w6 ⟨rfl, b6⟩; have bel6 : Below wk.heap.size wk w6 := Below.trans (belh _ (by assumption)) (b6.mono (Below.size (belh _ (by assumption)))); (try (have hbB := (b6.block wk.heap.size (block_lt hbA)).trans hbA; obtain ⟨p0, p1⟩ := of2 hbB; obtain ⟨f0, f1⟩ := thaw2 hbB)); (try (have hbC := (b6.block w5.heap.size (by simp)).trans (by first | exact heap_alloc_new w5 (.cells #[.int .i64 0, .bool false] 25) | exact heap_alloc_new w5.drew (.cells #[.int .i64 0, .bool false] 25) | exact heap_alloc_new (w5.drewN _) (.cells #[.int .i64 0, .bool false] 25)); obtain ⟨p0, p1⟩ := of2 hbC; obtain ⟨f0, f1⟩ := thaw2 hbC)))
        | fail)
    · go_wp2
      go_meet
      exact ⟨w6.heap.size, rfl, rfl, Lib.hid ⟨heap_alloc_new _ _, balB bel6 _⟩⟩
    · go_wp2
      go_meet
      exact ⟨w5.heap.size, rfl, rfl, Lib.hid ⟨put2_heap hbC _ _, put2_below bel6 bel5.size _ _⟩⟩
    · go_wp2
      go_meet
      exact ⟨wk.heap.size, rfl, rfl, Lib.hid ⟨put2_heap hbB _ _, put2_below bel6 (Nat.le_refl _) _ _⟩⟩
  case rest =>
  obtain ⟨g2, rfl, rfl, hb2⟩ := hcut
  have hx2 := hb2.out.1
  have hx1b := (hb2.out.2.block _ (block_lt hx1)).trans hx1
  have bel4 := bel3.trans (hb2.out.2.mono bel3.size)
  clear HK belh hx1 bel3 hb2
  have HK : Hid (∀ w' : World, Below wc.heap.size wc w' → (Below wc.heap.size wc w' ∧ w'.cell? ⟨g1, 0, none⟩ = some (.int .i64 1) ∧ w'.cell? ⟨g1, 1, none⟩ = some (.bool true) ∧ w'.cell? ⟨g2, 0, none⟩ = some (.int .i64 1) ∧ w'.cell? ⟨g2, 1, none⟩ = some (.bool true))) := Lib.hid fun w' hw => ⟨hw, (of2 ((hw.block _ (block_lt hx1b)).trans hx1b)).1, (of2 ((hw.block _ (block_lt hx1b)).trans hx1b)).2, of2 ((hw.block _ (block_lt hx2)).trans hx2)⟩
  have belh : ∀ w' : World, (Below wc.heap.size wc w' ∧ w'.cell? ⟨g1, 0, none⟩ = some (.int .i64 1) ∧ w'.cell? ⟨g1, 1, none⟩ = some (.bool true) ∧ w'.cell? ⟨g2, 0, none⟩ = some (.int .i64 1) ∧ w'.cell? ⟨g2, 1, none⟩ = some (.bool true)) → Below wc.heap.size wc w' := fun w' h => h.1
  go_upto_region 3 with fail
  go_cut [5, 6] from 7 to 57 (fun s n wx => ∃ g, s = .pointer (some ⟨g, 0, none⟩) ∧ n = .int .i64 3 ∧ Hid (wx.heap[g]? = some (.cells #[.int .i64 0, .bool true] 25 (0, 0)) ∧ Below wc.heap.size wc wx))
  case first =>
    go_wp2
    go_region_held3 (fun w' => Below wc.heap.size wc w' ∧ w'.cell? ⟨g1, 0, none⟩ = some (.int .i64 1) ∧ w'.cell? ⟨g1, 1, none⟩ = some (.bool true) ∧ w'.cell? ⟨g2, 0, none⟩ = some (.int .i64 1) ∧ w'.cell? ⟨g2, 1, none⟩ = some (.bool true))
      ((refine HK.out _ ?_
        repeat' (first
          | with_reducible exact Below.refl _ _
          | with_reducible exact bel6
          | with_reducible exact bel5
          | with_reducible exact belh _ (by assumption)
          | with_reducible apply below_drew
          | with_reducible apply below_drewN
          | with_reducible apply balB
          | with_reducible refine bsetB _ _ ?_ (Nat.le_refl _)
          | with_reducible refine bsetB _ _ ?_ (Below.size (by first | exact bel6 | exact bel5 | exact belh _ (by assumption)))
          | fail)))
      (first
        | (go_at_call 18; refine (band8_any _).mono ?_; rintro e w5 ⟨rfl, b5⟩; have bel5 : Below wc.heap.size wc w5 := Below.trans (belh _ (by assumption)) (b5.mono (Below.size (belh _ (by assumption)))); (try (have hbA := (b5.block wc.heap.size (by simp)).trans (by first | exact heap_alloc_new wc (.cells #[.int .i64 0, .bool false] 25) | exact heap_alloc_new wc.drew (.cells #[.int .i64 0, .bool false] 25) | exact heap_alloc_new (wc.drewN _) (.cells #[.int .i64 0, .bool false] 25)))))
        | (go_at_call 10; refine (Step8_lit true true false 10 20 2 1 true 13 0 true 3 _ (by decide +kernel)).mono ?_; rintro e w6 ⟨rfl, b6⟩; have bel6 : Below wc.heap.size wc w6 := Below.trans (belh _ (by assumption)) (b6.mono (Below.size (belh _ (by assumption)))); (try (have hbB := (b6.block wc.heap.size (block_lt hbA)).trans hbA; obtain ⟨p0, p1⟩ := of2 hbB; obtain ⟨f0, f1⟩ := thaw2 hbB)); (try (have hbC := (b6.block w5.heap.size (by simp)).trans (by first | exact heap_alloc_new w5 (.cells #[.int .i64 0, .bool false] 25) | exact heap_alloc_new w5.drew (.cells #[.int .i64 0, .bool false] 25) | exact heap_alloc_new (w5.drewN _) (.cells #[.int .i64 0, .bool false] 25)); obtain ⟨p0, p1⟩ := of2 hbC; obtain ⟨f0, f1⟩ := thaw2 hbC)))
        | fail)
    · go_wp2
      go_meet
      exact ⟨w6.heap.size, rfl, rfl, Lib.hid ⟨heap_alloc_new _ _, balB bel6 _⟩⟩
    · go_wp2
      go_meet
      exact ⟨w5.heap.size, rfl, rfl, Lib.hid ⟨put2_heap hbC _ _, put2_below bel6 bel5.size _ _⟩⟩
    · go_wp2
      go_meet
      exact ⟨wc.heap.size, rfl, rfl, Lib.hid ⟨put2_heap hbB _ _, put2_below bel6 (Nat.le_refl _) _ _⟩⟩
  case rest =>
  obtain ⟨g3, rfl, rfl, hb3⟩ := hcut
  have hx3 := hb3.out.1
  have hx2c := (hb3.out.2.block _ (block_lt hx2)).trans hx2
  have hx1c := (hb3.out.2.block _ (block_lt hx1b)).trans hx1b
  have bel5 := bel4.trans (hb3.out.2.mono bel4.size)
  obtain ⟨a1, a2⟩ := of2 hx1c
  obtain ⟨c1, c2⟩ := of2 hx2c
  obtain ⟨d1, d2⟩ := of2 hx3
  clear HK belh hx1b hx2 bel4 hb3
  go_wp2
  go_ret
  exact ⟨rfl, bel5⟩
end Go.Proofs.Ytlbblddpfijciaa
