/-
  The walk of AlarmInside.
-/
import Derived.Test.YtlbblddpfijciaaAlInside
import Derived.Test.YtlbblddpfijciaaAlTells
namespace Go.Proofs.Ytlbblddpfijciaa
open Go.RowKit
set_option linter.unusedVariables false

set_option maxHeartbeats 2000000 in
theorem walk_AlarmInside (ul uh la : Bool) (lo hi hy : Int) (A : Option Addr) (n c : Nat) (xs : List Int) (wt : Bool) (w : World) (wl : Lim.Ok ⟨ul, uh, la, lo, hi, hy⟩) (hr : Row .i64 w w.heap.size A xs) (hn : xs.length = n) (hc : n ≤ c) (hb : c ≤ 140737488351232) :
    Calls Try.prog 6 #[.agg #[.bool ul, .bool uh, .bool la, .int .i64 lo, .int .i64 hi, .int .i64 hy], .slice A n c, .bool wt] w fun e w' => e = .returned (.bool true) ∧ Below w.heap.size w w' := by
  have l0 := two_fst w (.cells #[.bool ul, .bool uh, .bool la, .int .i64 lo, .int .i64 hi, .int .i64 hy] 23) (.cells #[.int .i64 0, .bool wt] 25)
  have a0 := heap_alloc_two w (.cells #[.bool ul, .bool uh, .bool la, .int .i64 lo, .int .i64 hi, .int .i64 hy] 23) (.cells #[.int .i64 0, .bool wt] 25)
  have bel0 := bel_two w (.cells #[.bool ul, .bool uh, .bool la, .int .i64 lo, .int .i64 hi, .int .i64 hy] 23) (.cells #[.int .i64 0, .bool wt] 25)
  have bel00 := bel_alloc w (.cells #[.bool ul, .bool uh, .bool la, .int .i64 lo, .int .i64 hi, .int .i64 hy] 23)
  by_cases hbig : (65536 : Int) < n
  · go_enter Try.func6, Try.ntmps6
    go_wp2_with fail
    refine (works8_yes _).mono ?_
    rintro e w1 ⟨rfl, b1⟩
    go_wp2
    go_ret
    exact ⟨rfl, bel00.trans (b1.mono bel00.size)⟩
  have hn' := Lib.hid hn
  clear hn hb wl bel00
  go_enter Try.func6, Try.ntmps6
  go_wp2
  generalize (w.alloc (.cells #[.bool ul, .bool uh, .bool la, .int .i64 lo, .int .i64 hi, .int .i64 hy] 23)).alloc (.cells #[.int .i64 0, .bool wt] 25) = w0 at *
  go_loopw [8] (fun i wr => ∃ k : Nat, k ≤ n ∧ i = .int .i64 k ∧ Hid (wr.heap[w.heap.size]? = some (.cells #[.bool ul, .bool uh, .bool la, .int .i64 lo, .int .i64 hi, .int .i64 hy] 23 (0, 0)) ∧ wr.heap[w.heap.size + 1]? = some (.cells #[.int .i64 0, .bool wt] 25 (0, 0)) ∧ Below w.heap.size w wr)) (fun i _ => n - (intOf i).toNat)
  case atStart => exact ⟨0, by omega, rfl, Lib.hid ⟨l0, a0, bel0⟩⟩
  case round =>
    clear l0 a0 bel0
    obtain ⟨k, hk, rfl, hst⟩ := hrel
    by_cases hlt : k < n
    · obtain ⟨b, o, rfl, hb1, hc1⟩ := (hr.below hst.out.2.2).at_ (i := k) (by have := hn'.out; omega)
      obtain ⟨x, hx⟩ : ∃ x, nth xs k = x := ⟨_, rfl⟩
      rw [hx] at hc1
      clear hx
      have hlt' : (k : Int) < n := by omega
      have h0 : (0 : Int) ≤ k := by omega
      have hb2 : b < wr.heap.size := by have := hst.out.2.2.size; omega
      have HK : Hid (∀ w' : World, Below wr.heap.size wr w' → (Below wr.heap.size wr w' ∧ (w'.cell? ⟨w.heap.size, 0, none⟩ = some (.bool ul) ∧ w'.cell? ⟨w.heap.size, 1, none⟩ = some (.bool uh) ∧ w'.cell? ⟨w.heap.size, 2, none⟩ = some (.bool la) ∧ w'.cell? ⟨w.heap.size, 3, none⟩ = some (.int .i64 lo) ∧ w'.cell? ⟨w.heap.size, 4, none⟩ = some (.int .i64 hi) ∧ w'.cell? ⟨w.heap.size, 5, none⟩ = some (.int .i64 hy)) ∧ (w'.cell? ⟨w.heap.size + 1, 0, none⟩ = some (.int .i64 0) ∧ w'.cell? ⟨w.heap.size + 1, 1, none⟩ = some (.bool wt)) ∧ w'.cell? ⟨b, o + k, none⟩ = some (.int .i64 x))) := Lib.hid fun w' hw => ⟨hw, of6 (keepB hw (hst.out.1)), of2 (keepB hw (hst.out.2.1)), cellB hw (hb2) (hc1)⟩
      have belh : ∀ w' : World, (Below wr.heap.size wr w' ∧ (w'.cell? ⟨w.heap.size, 0, none⟩ = some (.bool ul) ∧ w'.cell? ⟨w.heap.size, 1, none⟩ = some (.bool uh) ∧ w'.cell? ⟨w.heap.size, 2, none⟩ = some (.bool la) ∧ w'.cell? ⟨w.heap.size, 3, none⟩ = some (.int .i64 lo) ∧ w'.cell? ⟨w.heap.size, 4, none⟩ = some (.int .i64 hi) ∧ w'.cell? ⟨w.heap.size, 5, none⟩ = some (.int .i64 hy)) ∧ (w'.cell? ⟨w.heap.size + 1, 0, none⟩ = some (.int .i64 0) ∧ w'.cell? ⟨w.heap.size + 1, 1, none⟩ = some (.bool wt)) ∧ w'.cell? ⟨b, o + k, none⟩ = some (.int .i64 x)) → Below wr.heap.size wr w' := fun w' h => h.1
      have HI : Hid (∀ W, Calls Try.prog 17 #[.agg #[.bool ul, .bool uh, .bool la, .int .i64 lo, .int .i64 hi, .int .i64 hy], .int .i64 x] W fun e w' => e = .returned (.bool (!lowB ⟨ul, uh, la, lo, hi, hy⟩ x && !highB ⟨ul, uh, la, lo, hi, hy⟩ x)) ∧ Below W.heap.size W w') := Lib.hid fun W => inside_any ul uh la lo hi hy x W
      have hsz := hst.out.2.2.size
      cases hin : (!lowB ⟨ul, uh, la, lo, hi, hy⟩ x && !highB ⟨ul, uh, la, lo, hi, hy⟩ x) with
      | false =>
        rw [hin] at HI
        clear hin
        go_wp2
        go_region_held3 (fun w' => Below wr.heap.size wr w' ∧ (w'.cell? ⟨w.heap.size, 0, none⟩ = some (.bool ul) ∧ w'.cell? ⟨w.heap.size, 1, none⟩ = some (.bool uh) ∧ w'.cell? ⟨w.heap.size, 2, none⟩ = some (.bool la) ∧ w'.cell? ⟨w.heap.size, 3, none⟩ = some (.int .i64 lo) ∧ w'.cell? ⟨w.heap.size, 4, none⟩ = some (.int .i64 hi) ∧ w'.cell? ⟨w.heap.size, 5, none⟩ = some (.int .i64 hy)) ∧ (w'.cell? ⟨w.heap.size + 1, 0, none⟩ = some (.int .i64 0) ∧ w'.cell? ⟨w.heap.size + 1, 1, none⟩ = some (.bool wt)) ∧ w'.cell? ⟨b, o + k, none⟩ = some (.int .i64 x))
          ((refine HK.out _ ?_
            repeat' (first
              | with_reducible exact Below.refl _ _
              | with_reducible exact bel5
              | with_reducible exact belh _ (by assumption)
              | with_reducible apply below_drew
              | with_reducible apply below_drewN
              | fail)))
          (first
            | (go_at_call 17; refine (HI.out _).mono ?_; rintro e w5 ⟨rfl, b5⟩; have bel5 : Below wr.heap.size wr w5 := Below.trans (belh _ (by assumption)) (b5.mono (Below.size (belh _ (by assumption)))))
            | fail)
        have hst5 : Hid (w5.heap[w.heap.size]? = some (.cells #[.bool ul, .bool uh, .bool la, .int .i64 lo, .int .i64 hi, .int .i64 hy] 23 (0, 0)) ∧ w5.heap[w.heap.size + 1]? = some (.cells #[.int .i64 0, .bool wt] 25 (0, 0)) ∧ Below w.heap.size w w5) := Lib.hid ⟨keepB bel5 hst.out.1, keepB bel5 hst.out.2.1, hst.out.2.2.trans (bel5.mono hsz)⟩
        clear HK belh
        go_wp2
        go_roundw
        case rel => exact ⟨k + 1, by omega, by go_num, hst5⟩
        case measure => simp [intOf]; omega
      | true =>
        rw [hin] at HI
        have HS : Hid (stepA ⟨ul, uh, la, lo, hi, hy⟩ ⟨0, wt⟩ x = (⟨0, wt⟩, 0)) := Lib.hid (by simp at hin; exact step_inside ⟨ul, uh, la, lo, hi, hy⟩ wt x hin.1 hin.2)
        clear hin
        go_wp2
        go_region_held3 (fun w' => Below wr.heap.size wr w' ∧ (w'.cell? ⟨w.heap.size, 0, none⟩ = some (.bool ul) ∧ w'.cell? ⟨w.heap.size, 1, none⟩ = some (.bool uh) ∧ w'.cell? ⟨w.heap.size, 2, none⟩ = some (.bool la) ∧ w'.cell? ⟨w.heap.size, 3, none⟩ = some (.int .i64 lo) ∧ w'.cell? ⟨w.heap.size, 4, none⟩ = some (.int .i64 hi) ∧ w'.cell? ⟨w.heap.size, 5, none⟩ = some (.int .i64 hy)) ∧ (w'.cell? ⟨w.heap.size + 1, 0, none⟩ = some (.int .i64 0) ∧ w'.cell? ⟨w.heap.size + 1, 1, none⟩ = some (.bool wt)) ∧ w'.cell? ⟨b, o + k, none⟩ = some (.int .i64 x))
          ((refine HK.out _ ?_
            repeat' (first
              | with_reducible exact Below.refl _ _
              | with_reducible exact bel5
              | with_reducible exact belh _ (by assumption)
              | with_reducible apply below_drew
              | with_reducible apply below_drewN
              | fail)))
          (first
            | (go_at_call 17; refine (HI.out _).mono ?_; rintro e w5 ⟨rfl, b5⟩; have bel5 : Below wr.heap.size wr w5 := Below.trans (belh _ (by assumption)) (b5.mono (Below.size (belh _ (by assumption)))))
            | fail)
        have hst5 : Hid (w5.heap[w.heap.size]? = some (.cells #[.bool ul, .bool uh, .bool la, .int .i64 lo, .int .i64 hi, .int .i64 hy] 23 (0, 0)) ∧ w5.heap[w.heap.size + 1]? = some (.cells #[.int .i64 0, .bool wt] 25 (0, 0)) ∧ Below w.heap.size w w5) := Lib.hid ⟨keepB bel5 hst.out.1, keepB bel5 hst.out.2.1, hst.out.2.2.trans (bel5.mono hsz)⟩
        have hb5 : b < w5.heap.size := by have := bel5.size; omega
        have hc5 := cellB bel5 hb2 hc1
        have hsz5 := hst5.out.2.2.size
        clear HK belh HI bel5 hst hsz hb2 hc1
        go_wp2
        have HK : Hid (∀ w' : World, Below w5.heap.size w5 w' → (Below w5.heap.size w5 w' ∧ (w'.cell? ⟨w.heap.size, 0, none⟩ = some (.bool ul) ∧ w'.cell? ⟨w.heap.size, 1, none⟩ = some (.bool uh) ∧ w'.cell? ⟨w.heap.size, 2, none⟩ = some (.bool la) ∧ w'.cell? ⟨w.heap.size, 3, none⟩ = some (.int .i64 lo) ∧ w'.cell? ⟨w.heap.size, 4, none⟩ = some (.int .i64 hi) ∧ w'.cell? ⟨w.heap.size, 5, none⟩ = some (.int .i64 hy)) ∧ (w'.cell? ⟨w.heap.size + 1, 0, none⟩ = some (.int .i64 0) ∧ w'.cell? ⟨w.heap.size + 1, 1, none⟩ = some (.bool wt)) ∧ w'.cell? ⟨b, o + k, none⟩ = some (.int .i64 x))) := Lib.hid fun w' hw => ⟨hw, of6 (keepB hw (hst5.out.1)), of2 (keepB hw (hst5.out.2.1)), cellB hw (hb5) (hc5)⟩
        have belh : ∀ w' : World, (Below w5.heap.size w5 w' ∧ (w'.cell? ⟨w.heap.size, 0, none⟩ = some (.bool ul) ∧ w'.cell? ⟨w.heap.size, 1, none⟩ = some (.bool uh) ∧ w'.cell? ⟨w.heap.size, 2, none⟩ = some (.bool la) ∧ w'.cell? ⟨w.heap.size, 3, none⟩ = some (.int .i64 lo) ∧ w'.cell? ⟨w.heap.size, 4, none⟩ = some (.int .i64 hi) ∧ w'.cell? ⟨w.heap.size, 5, none⟩ = some (.int .i64 hy)) ∧ (w'.cell? ⟨w.heap.size + 1, 0, none⟩ = some (.int .i64 0) ∧ w'.cell? ⟨w.heap.size + 1, 1, none⟩ = some (.bool wt)) ∧ w'.cell? ⟨b, o + k, none⟩ = some (.int .i64 x)) → Below w5.heap.size w5 w' := fun w' h => h.1
        go_region_held3 (fun w' => Below w5.heap.size w5 w' ∧ (w'.cell? ⟨w.heap.size, 0, none⟩ = some (.bool ul) ∧ w'.cell? ⟨w.heap.size, 1, none⟩ = some (.bool uh) ∧ w'.cell? ⟨w.heap.size, 2, none⟩ = some (.bool la) ∧ w'.cell? ⟨w.heap.size, 3, none⟩ = some (.int .i64 lo) ∧ w'.cell? ⟨w.heap.size, 4, none⟩ = some (.int .i64 hi) ∧ w'.cell? ⟨w.heap.size, 5, none⟩ = some (.int .i64 hy)) ∧ (w'.cell? ⟨w.heap.size + 1, 0, none⟩ = some (.int .i64 0) ∧ w'.cell? ⟨w.heap.size + 1, 1, none⟩ = some (.bool wt)) ∧ w'.cell? ⟨b, o + k, none⟩ = some (.int .i64 x))
          ((refine HK.out _ ?_
            repeat' (first
              | with_reducible exact Below.refl _ _
              | with_reducible exact bel6
              | with_reducible exact belh _ (by assumption)
              | with_reducible apply below_drew
              | with_reducible apply below_drewN
              | with_reducible apply balB
              | with_reducible refine bsetB _ _ ?_ (Nat.le_refl _)
              | with_reducible refine bsetB _ _ ?_ (Below.size (by first | exact bel6 | exact belh _ (by assumption)))
              | fail)))
          (first
            | (go_at_call 10; refine (Step8_lit ul uh la lo hi hy 0 wt x 0 wt 0 _ HS.out).mono ?_; rintro e w6 ⟨rfl, b6⟩; have bel6 : Below w5.heap.size w5 w6 := Below.trans (belh _ (by assumption)) (b6.mono (Below.size (belh _ (by assumption)))); (try (have hbA := (b6.block w5.heap.size (by simp)).trans (by first | exact heap_alloc_new w5 (.cells #[.int .i64 0, .bool false] 25) | exact heap_alloc_new w5.drew (.cells #[.int .i64 0, .bool false] 25) | exact heap_alloc_new (w5.drewN _) (.cells #[.int .i64 0, .bool false] 25)); obtain ⟨p0, p1⟩ := of2 hbA; obtain ⟨f0, f1⟩ := thaw2 hbA)))
            | fail)
        · have hbx := heap_alloc_new w6 (.cells #[.int .i64 0, .bool wt] 25)
          have bel7 := balB bel6 (.cells #[.int .i64 0, .bool wt] 25)
          generalize w6.alloc (.cells #[.int .i64 0, .bool wt] 25) = w7 at *
          generalize w6.heap.size = g7 at *
          (try simp only [Exit.then])
          have hst7 : Hid (w7.heap[w.heap.size]? = some (.cells #[.bool ul, .bool uh, .bool la, .int .i64 lo, .int .i64 hi, .int .i64 hy] 23 (0, 0)) ∧ w7.heap[w.heap.size + 1]? = some (.cells #[.int .i64 0, .bool wt] 25 (0, 0)) ∧ Below w.heap.size w w7) := Lib.hid ⟨keepB bel7 hst5.out.1, keepB bel7 hst5.out.2.1, hst5.out.2.2.trans (bel7.mono hsz5)⟩
          obtain ⟨u0, u1⟩ := of2 hbx
          obtain ⟨t0, t1⟩ := of2 hst7.out.2.1
          clear HK belh hbx bel7
          go_wp2
          go_roundw
          case rel => exact ⟨k + 1, by omega, by go_num, hst7⟩
          case measure => simp [intOf]; omega
        · have hbx := put2_heap hbA (.int .i64 0) (.bool wt)
          have bel7 := put2_below bel6 (Nat.le_refl _) (.int .i64 0) (.bool wt)
          show Exit.then _ _ _ _ (put2 w6 w5.heap.size (.int .i64 0) (.bool wt))
          generalize put2 w6 w5.heap.size (.int .i64 0) (.bool wt) = w7 at *
          (try simp only [Exit.then])
          have hst7 : Hid (w7.heap[w.heap.size]? = some (.cells #[.bool ul, .bool uh, .bool la, .int .i64 lo, .int .i64 hi, .int .i64 hy] 23 (0, 0)) ∧ w7.heap[w.heap.size + 1]? = some (.cells #[.int .i64 0, .bool wt] 25 (0, 0)) ∧ Below w.heap.size w w7) := Lib.hid ⟨keepB bel7 hst5.out.1, keepB bel7 hst5.out.2.1, hst5.out.2.2.trans (bel7.mono hsz5)⟩
          obtain ⟨u0, u1⟩ := of2 hbx
          obtain ⟨t0, t1⟩ := of2 hst7.out.2.1
          clear HK belh hbx bel7
          go_wp2
          go_roundw
          case rel => exact ⟨k + 1, by omega, by go_num, hst7⟩
          case measure => simp [intOf]; omega
    · obtain rfl : k = n := by omega
      have bel := hst.out.2.2
      go_wp2_with fail
      refine (works8_yes _).mono ?_
      rintro e w1 ⟨rfl, b1⟩
      go_wp2
      go_ret
      exact ⟨rfl, bel.trans (b1.mono bel.size)⟩
end Go.Proofs.Ytlbblddpfijciaa
