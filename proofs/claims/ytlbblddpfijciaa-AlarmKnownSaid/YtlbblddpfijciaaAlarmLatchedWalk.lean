/-
  The walk of AlarmLatched.
-/
import Derived.Test.YtlbblddpfijciaaAlInside
import Derived.Test.YtlbblddpfijciaaAlLatch
namespace Go.Proofs.Ytlbblddpfijciaa
open Go.RowKit
set_option linter.unusedVariables false

theorem Ack8_lit (st : Int) (wt : Bool) (s' : Int) (t' b : Bool) (w : World) (h : ackA ⟨st, wt⟩ = (⟨s', t'⟩, b)) : Calls Try.prog 12 #[.agg #[.int .i64 st, .bool wt]] w fun e w' => e = .returned (.tuple #[.agg #[.int .i64 s', .bool t'], .bool b]) ∧ Below w.heap.size w w' := by
  have := Ack8_any st wt w
  rw [h] at this
  exact this
set_option maxHeartbeats 4000000 in
set_option maxRecDepth 100000 in
theorem walk_AlarmLatched (ul uh la : Bool) (lo hi hy : Int) (A : Option Addr) (n c : Nat) (xs : List Int) (w : World) (wl : Lim.Ok ⟨ul, uh, la, lo, hi, hy⟩) (hr : Row .i64 w w.heap.size A xs) (hn : xs.length = n) (hc : n ≤ c) (hb : c ≤ 140737488351232) :
    Calls Try.prog 7 #[.agg #[.bool ul, .bool uh, .bool la, .int .i64 lo, .int .i64 hi, .int .i64 hy], .slice A n c] w fun e w' => e = .returned (.bool true) ∧ Below w.heap.size w w' := by
  have bl0 := heap_alloc_new w (.cells #[.bool ul, .bool uh, .bool true, .int .i64 lo, .int .i64 hi, .int .i64 hy] 23)
  have bel0 := bel_alloc w (.cells #[.bool ul, .bool uh, .bool true, .int .i64 lo, .int .i64 hi, .int .i64 hy] 23)
  by_cases hbig : (65536 : Int) < n
  · go_enter Try.func7, Try.ntmps7
    go_wp2_with fail
    refine (works8_yes _).mono ?_
    rintro e w1 ⟨rfl, b1⟩
    go_wp2
    go_ret
    exact ⟨rfl, bel0.trans (b1.mono bel0.size)⟩
  have hn' := Lib.hid hn
  clear hn hb wl
  cases hok : okL ⟨ul, uh, true, lo, hi, hy⟩ with
  | false =>
    go_enter Try.func7, Try.ntmps7
    go_wp2_with fail
    refine (Check8_any ul uh true lo hi hy _).mono ?_
    rintro e w1 ⟨rfl, b1⟩
    rw [chkL_bad hok]
    have bel1 := bel0.trans (b1.mono bel0.size)
    clear bl0 bel0 b1
    go_wp2_with fail
    refine (works8_yes _).mono ?_
    rintro e w2 ⟨rfl, b2⟩
    go_wp2
    go_ret
    exact ⟨rfl, bel1.trans (b2.mono bel1.size)⟩
  | true =>
  have HOK := Lib.hid hok
  go_enter Try.func7, Try.ntmps7
  go_wp2_with fail
  refine (Check8_any ul uh true lo hi hy _).mono ?_
  rintro e w1 ⟨rfl, b1⟩
  rw [chkL_ok hok]
  have hk1 := balB b1 (.cells #[.int .i64 0, .bool false] 25)
  have l1 := keepB hk1 bl0
  have a1 := heap_alloc_new w1 (.cells #[.int .i64 0, .bool false] 25)
  have bel1 := bel0.trans (hk1.mono bel0.size)
  have hne : w.heap.size ≠ w1.heap.size := by have := b1.size; simp at this; omega
  have hlt1 : w.heap.size ≤ w1.heap.size := by have := b1.size; simp at this; omega
  clear bl0 bel0 b1 hk1 hok
  go_wp2
  generalize w1.alloc (.cells #[.int .i64 0, .bool false] 25) = w0 at *
  generalize w1.heap.size = g1 at *
  go_loopw [6, 7] (fun r i wr => ∃ (k : Nat) (rs : Bool) (st : Int) (wt : Bool), k ≤ n ∧ r = .bool rs ∧ i = .int .i64 k ∧ Hid (LatI rs st wt) ∧ Hid (wr.heap[w.heap.size]? = some (.cells #[.bool ul, .bool uh, .bool true, .int .i64 lo, .int .i64 hi, .int .i64 hy] 23 (0, 0)) ∧ wr.heap[g1]? = some (.cells #[.int .i64 st, .bool wt] 25 (0, 0)) ∧ Below w.heap.size w wr)) (fun _ i _ => n - (intOf i).toNat)
  case atStart => exact ⟨0, false, 0, false, by omega, rfl, rfl, Lib.hid (.inl ⟨rfl, rfl, rfl⟩), Lib.hid ⟨l1, a1, bel1⟩⟩
  case round =>
    clear l1 a1 bel1
    obtain ⟨k, rs, st, wt, hk, rfl, rfl, hlat, hst⟩ := hrel
    by_cases hlt : k < n
    · obtain ⟨b, o, rfl, hb1, hc1⟩ := (hr.below hst.out.2.2).at_ (i := k) (by have := hn'.out; omega)
      obtain ⟨x, hx⟩ : ∃ x, nth xs k = x := ⟨_, rfl⟩
      rw [hx] at hc1
      clear hx
      have hlt' : (k : Int) < n := by omega
      have h0 : (0 : Int) ≤ k := by omega
      have hsz := hst.out.2.2.size
      have hb2 : b < wr.heap.size := by omega
      rcases lat_round ul uh lo hi hy st x rs wt hlat.out with ⟨rfl, rfl, rfl, hs⟩ | ⟨rfl, rfl, hst0, hs⟩ | hs | hs
      · have HS := Lib.hid hs
        clear hs hlat
        have HK : Hid (∀ w' : World, Below wr.heap.size wr w' → (Below wr.heap.size wr w' ∧ (w'.cell? ⟨w.heap.size, 0, none⟩ = some (.bool ul) ∧ w'.cell? ⟨w.heap.size, 1, none⟩ = some (.bool uh) ∧ w'.cell? ⟨w.heap.size, 2, none⟩ = some (.bool true) ∧ w'.cell? ⟨w.heap.size, 3, none⟩ = some (.int .i64 lo) ∧ w'.cell? ⟨w.heap.size, 4, none⟩ = some (.int .i64 hi) ∧ w'.cell? ⟨w.heap.size, 5, none⟩ = some (.int .i64 hy)) ∧ (w'.cell? ⟨g1, 0, none⟩ = some (.int .i64 0) ∧ w'.cell? ⟨g1, 1, none⟩ = some (.bool false)) ∧ w'.cell? ⟨b, o + k, none⟩ = some (.int .i64 x))) := Lib.hid fun w' hw => ⟨hw, of6 (keepB hw (hst.out.1)), of2 (keepB hw (hst.out.2.1)), cellB hw (hb2) (hc1)⟩
        have belh : ∀ w' : World, (Below wr.heap.size wr w' ∧ (w'.cell? ⟨w.heap.size, 0, none⟩ = some (.bool ul) ∧ w'.cell? ⟨w.heap.size, 1, none⟩ = some (.bool uh) ∧ w'.cell? ⟨w.heap.size, 2, none⟩ = some (.bool true) ∧ w'.cell? ⟨w.heap.size, 3, none⟩ = some (.int .i64 lo) ∧ w'.cell? ⟨w.heap.size, 4, none⟩ = some (.int .i64 hi) ∧ w'.cell? ⟨w.heap.size, 5, none⟩ = some (.int .i64 hy)) ∧ (w'.cell? ⟨g1, 0, none⟩ = some (.int .i64 0) ∧ w'.cell? ⟨g1, 1, none⟩ = some (.bool false)) ∧ w'.cell? ⟨b, o + k, none⟩ = some (.int .i64 x)) → Below wr.heap.size wr w' := fun w' h => h.1
        go_wp2
        go_region_held3 (fun w' => Below wr.heap.size wr w' ∧ (w'.cell? ⟨w.heap.size, 0, none⟩ = some (.bool ul) ∧ w'.cell? ⟨w.heap.size, 1, none⟩ = some (.bool uh) ∧ w'.cell? ⟨w.heap.size, 2, none⟩ = some (.bool true) ∧ w'.cell? ⟨w.heap.size, 3, none⟩ = some (.int .i64 lo) ∧ w'.cell? ⟨w.heap.size, 4, none⟩ = some (.int .i64 hi) ∧ w'.cell? ⟨w.heap.size, 5, none⟩ = some (.int .i64 hy)) ∧ (w'.cell? ⟨g1, 0, none⟩ = some (.int .i64 0) ∧ w'.cell? ⟨g1, 1, none⟩ = some (.bool false)) ∧ w'.cell? ⟨b, o + k, none⟩ = some (.int .i64 x))
          ((refine HK.out _ ?_
            repeat' (first
              | with_reducible exact Below.refl _ _
              | with_reducible exact bel6
              | with_reducible exact belh _ (by assumption)
              | with_reducible apply below_drew
              | with_reducible apply below_drewN
              | with_reducible apply balB
              | with_reducible refine bsetB _ _ ?_ (Nat.le_refl _)
              | with_reducible refine bsetB _ _ ?_ (Below.size (by first | exact bel6 | exact belh _ (by assumption)))
              | fail)))
          (first
            | (go_at_call 10; refine (Step8_lit ul uh true lo hi hy 0 false x 0 false 0 _ HS.out).mono ?_; rintro e w6 ⟨rfl, b6⟩; have bel6 : Below wr.heap.size wr w6 := Below.trans (belh _ (by assumption)) (b6.mono (Below.size (belh _ (by assumption)))); (try (have hbA := (b6.block wr.heap.size (by simp)).trans (by first | exact heap_alloc_new wr (.cells #[.int .i64 0, .bool false] 25) | exact heap_alloc_new wr.drew (.cells #[.int .i64 0, .bool false] 25) | exact heap_alloc_new (wr.drewN _) (.cells #[.int .i64 0, .bool false] 25)); obtain ⟨p0, p1⟩ := of2 hbA; obtain ⟨f0, f1⟩ := thaw2 hbA)))
            | fail)
        · have hbx := heap_alloc_new w6 (.cells #[.int .i64 0, .bool false] 25)
          have bel7 := balB bel6 (.cells #[.int .i64 0, .bool false] 25)
          generalize w6.alloc (.cells #[.int .i64 0, .bool false] 25) = w7 at *
          generalize w6.heap.size = g7 at *
          (try simp only [Exit.then])
          have hl7 := keepB bel7 hst.out.1
          have ha7 := keepB bel7 hst.out.2.1
          have hb7 := hst.out.2.2.trans (bel7.mono hsz)
          have hst8 : Hid ((put2 w7 g1 (.int .i64 0) (.bool false)).heap[w.heap.size]? = some (.cells #[.bool ul, .bool uh, .bool true, .int .i64 lo, .int .i64 hi, .int .i64 hy] 23 (0, 0)) ∧ (put2 w7 g1 (.int .i64 0) (.bool false)).heap[g1]? = some (.cells #[.int .i64 0, .bool false] 25 (0, 0)) ∧ Below w.heap.size w (put2 w7 g1 (.int .i64 0) (.bool false))) := Lib.hid ⟨(put2_other _ _ hne).trans hl7, put2_heap ha7 _ _, put2_below hb7 hlt1 _ _⟩
          obtain ⟨u0, u1⟩ := of2 hbx
          obtain ⟨t0, t1⟩ := of2 ha7
          obtain ⟨f0, f1⟩ := thaw2 ha7
          clear HK belh hbx bel7 hl7 ha7 hb7 hst
          go_wp2
          go_roundw
          case rel => exact ⟨k + 1, false, 0, false, by omega, rfl, by go_num, Lib.hid (.inl ⟨rfl, rfl, rfl⟩), hst8⟩
          case measure => simp [intOf]; omega
        · have hbx := put2_heap hbA (.int .i64 0) (.bool false)
          have bel7 := put2_below bel6 (Nat.le_refl _) (.int .i64 0) (.bool false)
          show Exit.then _ _ _ _ (put2 w6 wr.heap.size (.int .i64 0) (.bool false))
          generalize put2 w6 wr.heap.size (.int .i64 0) (.bool false) = w7 at *
          (try simp only [Exit.then])
          have hl7 := keepB bel7 hst.out.1
          have ha7 := keepB bel7 hst.out.2.1
          have hb7 := hst.out.2.2.trans (bel7.mono hsz)
          have hst8 : Hid ((put2 w7 g1 (.int .i64 0) (.bool false)).heap[w.heap.size]? = some (.cells #[.bool ul, .bool uh, .bool true, .int .i64 lo, .int .i64 hi, .int .i64 hy] 23 (0, 0)) ∧ (put2 w7 g1 (.int .i64 0) (.bool false)).heap[g1]? = some (.cells #[.int .i64 0, .bool false] 25 (0, 0)) ∧ Below w.heap.size w (put2 w7 g1 (.int .i64 0) (.bool false))) := Lib.hid ⟨(put2_other _ _ hne).trans hl7, put2_heap ha7 _ _, put2_below hb7 hlt1 _ _⟩
          obtain ⟨u0, u1⟩ := of2 hbx
          obtain ⟨t0, t1⟩ := of2 ha7
          obtain ⟨f0, f1⟩ := thaw2 ha7
          clear HK belh hbx bel7 hl7 ha7 hb7 hst
          go_wp2
          go_roundw
          case rel => exact ⟨k + 1, false, 0, false, by omega, rfl, by go_num, Lib.hid (.inl ⟨rfl, rfl, rfl⟩), hst8⟩
          case measure => simp [intOf]; omega
      · have HS := Lib.hid hs
        have HN := Lib.hid hst0
        have n0 : ¬ st = 0 := by omega
        clear hs hlat hst0
        have HK : Hid (∀ w' : World, Below wr.heap.size wr w' → (Below wr.heap.size wr w' ∧ (w'.cell? ⟨w.heap.size, 0, none⟩ = some (.bool ul) ∧ w'.cell? ⟨w.heap.size, 1, none⟩ = some (.bool uh) ∧ w'.cell? ⟨w.heap.size, 2, none⟩ = some (.bool true) ∧ w'.cell? ⟨w.heap.size, 3, none⟩ = some (.int .i64 lo) ∧ w'.cell? ⟨w.heap.size, 4, none⟩ = some (.int .i64 hi) ∧ w'.cell? ⟨w.heap.size, 5, none⟩ = some (.int .i64 hy)) ∧ (w'.cell? ⟨g1, 0, none⟩ = some (.int .i64 st) ∧ w'.cell? ⟨g1, 1, none⟩ = some (.bool true)) ∧ w'.cell? ⟨b, o + k, none⟩ = some (.int .i64 x))) := Lib.hid fun w' hw => ⟨hw, of6 (keepB hw (hst.out.1)), of2 (keepB hw (hst.out.2.1)), cellB hw (hb2) (hc1)⟩
        have belh : ∀ w' : World, (Below wr.heap.size wr w' ∧ (w'.cell? ⟨w.heap.size, 0, none⟩ = some (.bool ul) ∧ w'.cell? ⟨w.heap.size, 1, none⟩ = some (.bool uh) ∧ w'.cell? ⟨w.heap.size, 2, none⟩ = some (.bool true) ∧ w'.cell? ⟨w.heap.size, 3, none⟩ = some (.int .i64 lo) ∧ w'.cell? ⟨w.heap.size, 4, none⟩ = some (.int .i64 hi) ∧ w'.cell? ⟨w.heap.size, 5, none⟩ = some (.int .i64 hy)) ∧ (w'.cell? ⟨g1, 0, none⟩ = some (.int .i64 st) ∧ w'.cell? ⟨g1, 1, none⟩ = some (.bool true)) ∧ w'.cell? ⟨b, o + k, none⟩ = some (.int .i64 x)) → Below wr.heap.size wr w' := fun w' h => h.1
        go_wp2
        go_region_held3 (fun w' => Below wr.heap.size wr w' ∧ (w'.cell? ⟨w.heap.size, 0, none⟩ = some (.bool ul) ∧ w'.cell? ⟨w.heap.size, 1, none⟩ = some (.bool uh) ∧ w'.cell? ⟨w.heap.size, 2, none⟩ = some (.bool true) ∧ w'.cell? ⟨w.heap.size, 3, none⟩ = some (.int .i64 lo) ∧ w'.cell? ⟨w.heap.size, 4, none⟩ = some (.int .i64 hi) ∧ w'.cell? ⟨w.heap.size, 5, none⟩ = some (.int .i64 hy)) ∧ (w'.cell? ⟨g1, 0, none⟩ = some (.int .i64 st) ∧ w'.cell? ⟨g1, 1, none⟩ = some (.bool true)) ∧ w'.cell? ⟨b, o + k, none⟩ = some (.int .i64 x))
          ((refine HK.out _ ?_
            repeat' (first
              | with_reducible exact Below.refl _ _
              | with_reducible exact bel6
              | with_reducible exact belh _ (by assumption)
              | with_reducible apply below_drew
              | with_reducible apply below_drewN
              | with_reducible apply balB
              | with_reducible refine bsetB _ _ ?_ (Nat.le_refl _)
              | with_reducible refine bsetB _ _ ?_ (Below.size (by first | exact bel6 | exact belh _ (by assumption)))
              | fail)))
          (first
            | (go_at_call 10; refine (Step8_lit ul uh true lo hi hy st true x st true 0 _ HS.out).mono ?_; rintro e w6 ⟨rfl, b6⟩; have bel6 : Below wr.heap.size wr w6 := Below.trans (belh _ (by assumption)) (b6.mono (Below.size (belh _ (by assumption)))); (try (have hbA := (b6.block wr.heap.size (by simp)).trans (by first | exact heap_alloc_new wr (.cells #[.int .i64 0, .bool false] 25) | exact heap_alloc_new wr.drew (.cells #[.int .i64 0, .bool false] 25) | exact heap_alloc_new (wr.drewN _) (.cells #[.int .i64 0, .bool false] 25)); obtain ⟨p0, p1⟩ := of2 hbA; obtain ⟨f0, f1⟩ := thaw2 hbA)))
            | fail)
        · have hbx := heap_alloc_new w6 (.cells #[.int .i64 st, .bool true] 25)
          have bel7 := balB bel6 (.cells #[.int .i64 st, .bool true] 25)
          generalize w6.alloc (.cells #[.int .i64 st, .bool true] 25) = w7 at *
          generalize w6.heap.size = g7 at *
          (try simp only [Exit.then])
          have hl7 := keepB bel7 hst.out.1
          have ha7 := keepB bel7 hst.out.2.1
          have hb7 := hst.out.2.2.trans (bel7.mono hsz)
          have hst8 : Hid ((put2 w7 g1 (.int .i64 st) (.bool true)).heap[w.heap.size]? = some (.cells #[.bool ul, .bool uh, .bool true, .int .i64 lo, .int .i64 hi, .int .i64 hy] 23 (0, 0)) ∧ (put2 w7 g1 (.int .i64 st) (.bool true)).heap[g1]? = some (.cells #[.int .i64 st, .bool true] 25 (0, 0)) ∧ Below w.heap.size w (put2 w7 g1 (.int .i64 st) (.bool true))) := Lib.hid ⟨(put2_other _ _ hne).trans hl7, put2_heap ha7 _ _, put2_below hb7 hlt1 _ _⟩
          obtain ⟨u0, u1⟩ := of2 hbx
          obtain ⟨t0, t1⟩ := of2 ha7
          obtain ⟨f0, f1⟩ := thaw2 ha7
          clear HK belh hbx bel7 hl7 ha7 hb7 hst
          go_wp2
          go_roundw
          case rel => exact ⟨k + 1, true, st, true, by omega, rfl, by go_num, Lib.hid (.inr ⟨rfl, rfl, HN.out⟩), hst8⟩
          case measure => simp [intOf]; omega
        · have hbx := put2_heap hbA (.int .i64 st) (.bool true)
          have bel7 := put2_below bel6 (Nat.le_refl _) (.int .i64 st) (.bool true)
          show Exit.then _ _ _ _ (put2 w6 wr.heap.size (.int .i64 st) (.bool true))
          generalize put2 w6 wr.heap.size (.int .i64 st) (.bool true) = w7 at *
          (try simp only [Exit.then])
          have hl7 := keepB bel7 hst.out.1
          have ha7 := keepB bel7 hst.out.2.1
          have hb7 := hst.out.2.2.trans (bel7.mono hsz)
          have hst8 : Hid ((put2 w7 g1 (.int .i64 st) (.bool true)).heap[w.heap.size]? = some (.cells #[.bool ul, .bool uh, .bool true, .int .i64 lo, .int .i64 hi, .int .i64 hy] 23 (0, 0)) ∧ (put2 w7 g1 (.int .i64 st) (.bool true)).heap[g1]? = some (.cells #[.int .i64 st, .bool true] 25 (0, 0)) ∧ Below w.heap.size w (put2 w7 g1 (.int .i64 st) (.bool true))) := Lib.hid ⟨(put2_other _ _ hne).trans hl7, put2_heap ha7 _ _, put2_below hb7 hlt1 _ _⟩
          obtain ⟨u0, u1⟩ := of2 hbx
          obtain ⟨t0, t1⟩ := of2 ha7
          obtain ⟨f0, f1⟩ := thaw2 ha7
          clear HK belh hbx bel7 hl7 ha7 hb7 hst
          go_wp2
          go_roundw
          case rel => exact ⟨k + 1, true, st, true, by omega, rfl, by go_num, Lib.hid (.inr ⟨rfl, rfl, HN.out⟩), hst8⟩
          case measure => simp [intOf]; omega
      · have HS := Lib.hid hs
        clear hs hlat
        cases rs
        · have HK : Hid (∀ w' : World, Below wr.heap.size wr w' → (Below wr.heap.size wr w' ∧ (w'.cell? ⟨w.heap.size, 0, none⟩ = some (.bool ul) ∧ w'.cell? ⟨w.heap.size, 1, none⟩ = some (.bool uh) ∧ w'.cell? ⟨w.heap.size, 2, none⟩ = some (.bool true) ∧ w'.cell? ⟨w.heap.size, 3, none⟩ = some (.int .i64 lo) ∧ w'.cell? ⟨w.heap.size, 4, none⟩ = some (.int .i64 hi) ∧ w'.cell? ⟨w.heap.size, 5, none⟩ = some (.int .i64 hy)) ∧ (w'.cell? ⟨g1, 0, none⟩ = some (.int .i64 st) ∧ w'.cell? ⟨g1, 1, none⟩ = some (.bool wt)) ∧ w'.cell? ⟨b, o + k, none⟩ = some (.int .i64 x))) := Lib.hid fun w' hw => ⟨hw, of6 (keepB hw (hst.out.1)), of2 (keepB hw (hst.out.2.1)), cellB hw (hb2) (hc1)⟩
          have belh : ∀ w' : World, (Below wr.heap.size wr w' ∧ (w'.cell? ⟨w.heap.size, 0, none⟩ = some (.bool ul) ∧ w'.cell? ⟨w.heap.size, 1, none⟩ = some (.bool uh) ∧ w'.cell? ⟨w.heap.size, 2, none⟩ = some (.bool true) ∧ w'.cell? ⟨w.heap.size, 3, none⟩ = some (.int .i64 lo) ∧ w'.cell? ⟨w.heap.size, 4, none⟩ = some (.int .i64 hi) ∧ w'.cell? ⟨w.heap.size, 5, none⟩ = some (.int .i64 hy)) ∧ (w'.cell? ⟨g1, 0, none⟩ = some (.int .i64 st) ∧ w'.cell? ⟨g1, 1, none⟩ = some (.bool wt)) ∧ w'.cell? ⟨b, o + k, none⟩ = some (.int .i64 x)) → Below wr.heap.size wr w' := fun w' h => h.1
          go_wp2
          go_region_held3 (fun w' => Below wr.heap.size wr w' ∧ (w'.cell? ⟨w.heap.size, 0, none⟩ = some (.bool ul) ∧ w'.cell? ⟨w.heap.size, 1, none⟩ = some (.bool uh) ∧ w'.cell? ⟨w.heap.size, 2, none⟩ = some (.bool true) ∧ w'.cell? ⟨w.heap.size, 3, none⟩ = some (.int .i64 lo) ∧ w'.cell? ⟨w.heap.size, 4, none⟩ = some (.int .i64 hi) ∧ w'.cell? ⟨w.heap.size, 5, none⟩ = some (.int .i64 hy)) ∧ (w'.cell? ⟨g1, 0, none⟩ = some (.int .i64 st) ∧ w'.cell? ⟨g1, 1, none⟩ = some (.bool wt)) ∧ w'.cell? ⟨b, o + k, none⟩ = some (.int .i64 x))
            ((refine HK.out _ ?_
              repeat' (first
                | with_reducible exact Below.refl _ _
                | with_reducible exact bel6
                | with_reducible exact belh _ (by assumption)
                | with_reducible apply below_drew
                | with_reducible apply below_drewN
                | with_reducible apply balB
                | with_reducible refine bsetB _ _ ?_ (Nat.le_refl _)
                | with_reducible refine bsetB _ _ ?_ (Below.size (by first | exact bel6 | exact belh _ (by assumption)))
                | fail)))
            (first
              | (go_at_call 10; refine (Step8_lit ul uh true lo hi hy st wt x 1 true 1 _ HS.out).mono ?_; rintro e w6 ⟨rfl, b6⟩; have bel6 : Below wr.heap.size wr w6 := Below.trans (belh _ (by assumption)) (b6.mono (Below.size (belh _ (by assumption)))); (try (have hbA := (b6.block wr.heap.size (by simp)).trans (by first | exact heap_alloc_new wr (.cells #[.int .i64 0, .bool false] 25) | exact heap_alloc_new wr.drew (.cells #[.int .i64 0, .bool false] 25) | exact heap_alloc_new (wr.drewN _) (.cells #[.int .i64 0, .bool false] 25)); obtain ⟨p0, p1⟩ := of2 hbA; obtain ⟨f0, f1⟩ := thaw2 hbA)))
              | fail)
          · have hbx := heap_alloc_new w6 (.cells #[.int .i64 1, .bool true] 25)
            have bel7 := balB bel6 (.cells #[.int .i64 1, .bool true] 25)
            generalize w6.alloc (.cells #[.int .i64 1, .bool true] 25) = w7 at *
            generalize w6.heap.size = g7 at *
            (try simp only [Exit.then])
            have hl7 := keepB bel7 hst.out.1
            have ha7 := keepB bel7 hst.out.2.1
            have hb7 := hst.out.2.2.trans (bel7.mono hsz)
            have hst8 : Hid ((put2 w7 g1 (.int .i64 1) (.bool true)).heap[w.heap.size]? = some (.cells #[.bool ul, .bool uh, .bool true, .int .i64 lo, .int .i64 hi, .int .i64 hy] 23 (0, 0)) ∧ (put2 w7 g1 (.int .i64 1) (.bool true)).heap[g1]? = some (.cells #[.int .i64 1, .bool true] 25 (0, 0)) ∧ Below w.heap.size w (put2 w7 g1 (.int .i64 1) (.bool true))) := Lib.hid ⟨(put2_other _ _ hne).trans hl7, put2_heap ha7 _ _, put2_below hb7 hlt1 _ _⟩
            obtain ⟨u0, u1⟩ := of2 hbx
            obtain ⟨t0, t1⟩ := of2 ha7
            obtain ⟨f0, f1⟩ := thaw2 ha7
            clear HK belh hbx bel7 hl7 ha7 hb7 hst
            go_wp2
            go_roundw
            case rel => exact ⟨k + 1, true, 1, true, by omega, rfl, by go_num, Lib.hid (.inr ⟨rfl, rfl, .inl rfl⟩), hst8⟩
            case measure => simp [intOf]; omega
          · have hbx := put2_heap hbA (.int .i64 1) (.bool true)
            have bel7 := put2_below bel6 (Nat.le_refl _) (.int .i64 1) (.bool true)
            show Exit.then _ _ _ _ (put2 w6 wr.heap.size (.int .i64 1) (.bool true))
            generalize put2 w6 wr.heap.size (.int .i64 1) (.bool true) = w7 at *
            (try simp only [Exit.then])
            have hl7 := keepB bel7 hst.out.1
            have ha7 := keepB bel7 hst.out.2.1
            have hb7 := hst.out.2.2.trans (bel7.mono hsz)
            have hst8 : Hid ((put2 w7 g1 (.int .i64 1) (.bool true)).heap[w.heap.size]? = some (.cells #[.bool ul, .bool uh, .bool true, .int .i64 lo, .int .i64 hi, .int .i64 hy] 23 (0, 0)) ∧ (put2 w7 g1 (.int .i64 1) (.bool true)).heap[g1]? = some (.cells #[.int .i64 1, .bool true] 25 (0, 0)) ∧ Below w.heap.size w (put2 w7 g1 (.int .i64 1) (.bool true))) := Lib.hid ⟨(put2_other _ _ hne).trans hl7, put2_heap ha7 _ _, put2_below hb7 hlt1 _ _⟩
            obtain ⟨u0, u1⟩ := of2 hbx
            obtain ⟨t0, t1⟩ := of2 ha7
            obtain ⟨f0, f1⟩ := thaw2 ha7
            clear HK belh hbx bel7 hl7 ha7 hb7 hst
            go_wp2
            go_roundw
            case rel => exact ⟨k + 1, true, 1, true, by omega, rfl, by go_num, Lib.hid (.inr ⟨rfl, rfl, .inl rfl⟩), hst8⟩
            case measure => simp [intOf]; omega
        · have HK : Hid (∀ w' : World, Below wr.heap.size wr w' → (Below wr.heap.size wr w' ∧ (w'.cell? ⟨w.heap.size, 0, none⟩ = some (.bool ul) ∧ w'.cell? ⟨w.heap.size, 1, none⟩ = some (.bool uh) ∧ w'.cell? ⟨w.heap.size, 2, none⟩ = some (.bool true) ∧ w'.cell? ⟨w.heap.size, 3, none⟩ = some (.int .i64 lo) ∧ w'.cell? ⟨w.heap.size, 4, none⟩ = some (.int .i64 hi) ∧ w'.cell? ⟨w.heap.size, 5, none⟩ = some (.int .i64 hy)) ∧ (w'.cell? ⟨g1, 0, none⟩ = some (.int .i64 st) ∧ w'.cell? ⟨g1, 1, none⟩ = some (.bool wt)) ∧ w'.cell? ⟨b, o + k, none⟩ = some (.int .i64 x))) := Lib.hid fun w' hw => ⟨hw, of6 (keepB hw (hst.out.1)), of2 (keepB hw (hst.out.2.1)), cellB hw (hb2) (hc1)⟩
          have belh : ∀ w' : World, (Below wr.heap.size wr w' ∧ (w'.cell? ⟨w.heap.size, 0, none⟩ = some (.bool ul) ∧ w'.cell? ⟨w.heap.size, 1, none⟩ = some (.bool uh) ∧ w'.cell? ⟨w.heap.size, 2, none⟩ = some (.bool true) ∧ w'.cell? ⟨w.heap.size, 3, none⟩ = some (.int .i64 lo) ∧ w'.cell? ⟨w.heap.size, 4, none⟩ = some (.int .i64 hi) ∧ w'.cell? ⟨w.heap.size, 5, none⟩ = some (.int .i64 hy)) ∧ (w'.cell? ⟨g1, 0, none⟩ = some (.int .i64 st) ∧ w'.cell? ⟨g1, 1, none⟩ = some (.bool wt)) ∧ w'.cell? ⟨b, o + k, none⟩ = some (.int .i64 x)) → Below wr.heap.size wr w' := fun w' h => h.1
          go_wp2
          go_region_held3 (fun w' => Below wr.heap.size wr w' ∧ (w'.cell? ⟨w.heap.size, 0, none⟩ = some (.bool ul) ∧ w'.cell? ⟨w.heap.size, 1, none⟩ = some (.bool uh) ∧ w'.cell? ⟨w.heap.size, 2, none⟩ = some (.bool true) ∧ w'.cell? ⟨w.heap.size, 3, none⟩ = some (.int .i64 lo) ∧ w'.cell? ⟨w.heap.size, 4, none⟩ = some (.int .i64 hi) ∧ w'.cell? ⟨w.heap.size, 5, none⟩ = some (.int .i64 hy)) ∧ (w'.cell? ⟨g1, 0, none⟩ = some (.int .i64 st) ∧ w'.cell? ⟨g1, 1, none⟩ = some (.bool wt)) ∧ w'.cell? ⟨b, o + k, none⟩ = some (.int .i64 x))
            ((refine HK.out _ ?_
              repeat' (first
                | with_reducible exact Below.refl _ _
                | with_reducible exact bel6
                | with_reducible exact belh _ (by assumption)
                | with_reducible apply below_drew
                | with_reducible apply below_drewN
                | with_reducible apply balB
                | with_reducible refine bsetB _ _ ?_ (Nat.le_refl _)
                | with_reducible refine bsetB _ _ ?_ (Below.size (by first | exact bel6 | exact belh _ (by assumption)))
                | fail)))
            (first
              | (go_at_call 10; refine (Step8_lit ul uh true lo hi hy st wt x 1 true 1 _ HS.out).mono ?_; rintro e w6 ⟨rfl, b6⟩; have bel6 : Below wr.heap.size wr w6 := Below.trans (belh _ (by assumption)) (b6.mono (Below.size (belh _ (by assumption)))); (try (have hbA := (b6.block wr.heap.size (by simp)).trans (by first | exact heap_alloc_new wr (.cells #[.int .i64 0, .bool false] 25) | exact heap_alloc_new wr.drew (.cells #[.int .i64 0, .bool false] 25) | exact heap_alloc_new (wr.drewN _) (.cells #[.int .i64 0, .bool false] 25)); obtain ⟨p0, p1⟩ := of2 hbA; obtain ⟨f0, f1⟩ := thaw2 hbA)))
              | fail)
          · have hbx := heap_alloc_new w6 (.cells #[.int .i64 1, .bool true] 25)
            have bel7 := balB bel6 (.cells #[.int .i64 1, .bool true] 25)
            generalize w6.alloc (.cells #[.int .i64 1, .bool true] 25) = w7 at *
            generalize w6.heap.size = g7 at *
            (try simp only [Exit.then])
            have hl7 := keepB bel7 hst.out.1
            have ha7 := keepB bel7 hst.out.2.1
            have hb7 := hst.out.2.2.trans (bel7.mono hsz)
            have hst8 : Hid ((put2 w7 g1 (.int .i64 1) (.bool true)).heap[w.heap.size]? = some (.cells #[.bool ul, .bool uh, .bool true, .int .i64 lo, .int .i64 hi, .int .i64 hy] 23 (0, 0)) ∧ (put2 w7 g1 (.int .i64 1) (.bool true)).heap[g1]? = some (.cells #[.int .i64 1, .bool true] 25 (0, 0)) ∧ Below w.heap.size w (put2 w7 g1 (.int .i64 1) (.bool true))) := Lib.hid ⟨(put2_other _ _ hne).trans hl7, put2_heap ha7 _ _, put2_below hb7 hlt1 _ _⟩
            obtain ⟨u0, u1⟩ := of2 hbx
            obtain ⟨t0, t1⟩ := of2 ha7
            obtain ⟨f0, f1⟩ := thaw2 ha7
            clear HK belh hbx bel7 hl7 ha7 hb7 hst
            go_wp2
            go_roundw
            case rel => exact ⟨k + 1, true, 1, true, by omega, rfl, by go_num, Lib.hid (.inr ⟨rfl, rfl, .inl rfl⟩), hst8⟩
            case measure => simp [intOf]; omega
          · have hbx := put2_heap hbA (.int .i64 1) (.bool true)
            have bel7 := put2_below bel6 (Nat.le_refl _) (.int .i64 1) (.bool true)
            show Exit.then _ _ _ _ (put2 w6 wr.heap.size (.int .i64 1) (.bool true))
            generalize put2 w6 wr.heap.size (.int .i64 1) (.bool true) = w7 at *
            (try simp only [Exit.then])
            have hl7 := keepB bel7 hst.out.1
            have ha7 := keepB bel7 hst.out.2.1
            have hb7 := hst.out.2.2.trans (bel7.mono hsz)
            have hst8 : Hid ((put2 w7 g1 (.int .i64 1) (.bool true)).heap[w.heap.size]? = some (.cells #[.bool ul, .bool uh, .bool true, .int .i64 lo, .int .i64 hi, .int .i64 hy] 23 (0, 0)) ∧ (put2 w7 g1 (.int .i64 1) (.bool true)).heap[g1]? = some (.cells #[.int .i64 1, .bool true] 25 (0, 0)) ∧ Below w.heap.size w (put2 w7 g1 (.int .i64 1) (.bool true))) := Lib.hid ⟨(put2_other _ _ hne).trans hl7, put2_heap ha7 _ _, put2_below hb7 hlt1 _ _⟩
            obtain ⟨u0, u1⟩ := of2 hbx
            obtain ⟨t0, t1⟩ := of2 ha7
            obtain ⟨f0, f1⟩ := thaw2 ha7
            clear HK belh hbx bel7 hl7 ha7 hb7 hst
            go_wp2
            go_roundw
            case rel => exact ⟨k + 1, true, 1, true, by omega, rfl, by go_num, Lib.hid (.inr ⟨rfl, rfl, .inl rfl⟩), hst8⟩
            case measure => simp [intOf]; omega
      · have HS := Lib.hid hs
        clear hs hlat
        cases rs
        · have HK : Hid (∀ w' : World, Below wr.heap.size wr w' → (Below wr.heap.size wr w' ∧ (w'.cell? ⟨w.heap.size, 0, none⟩ = some (.bool ul) ∧ w'.cell? ⟨w.heap.size, 1, none⟩ = some (.bool uh) ∧ w'.cell? ⟨w.heap.size, 2, none⟩ = some (.bool true) ∧ w'.cell? ⟨w.heap.size, 3, none⟩ = some (.int .i64 lo) ∧ w'.cell? ⟨w.heap.size, 4, none⟩ = some (.int .i64 hi) ∧ w'.cell? ⟨w.heap.size, 5, none⟩ = some (.int .i64 hy)) ∧ (w'.cell? ⟨g1, 0, none⟩ = some (.int .i64 st) ∧ w'.cell? ⟨g1, 1, none⟩ = some (.bool wt)) ∧ w'.cell? ⟨b, o + k, none⟩ = some (.int .i64 x))) := Lib.hid fun w' hw => ⟨hw, of6 (keepB hw (hst.out.1)), of2 (keepB hw (hst.out.2.1)), cellB hw (hb2) (hc1)⟩
          have belh : ∀ w' : World, (Below wr.heap.size wr w' ∧ (w'.cell? ⟨w.heap.size, 0, none⟩ = some (.bool ul) ∧ w'.cell? ⟨w.heap.size, 1, none⟩ = some (.bool uh) ∧ w'.cell? ⟨w.heap.size, 2, none⟩ = some (.bool true) ∧ w'.cell? ⟨w.heap.size, 3, none⟩ = some (.int .i64 lo) ∧ w'.cell? ⟨w.heap.size, 4, none⟩ = some (.int .i64 hi) ∧ w'.cell? ⟨w.heap.size, 5, none⟩ = some (.int .i64 hy)) ∧ (w'.cell? ⟨g1, 0, none⟩ = some (.int .i64 st) ∧ w'.cell? ⟨g1, 1, none⟩ = some (.bool wt)) ∧ w'.cell? ⟨b, o + k, none⟩ = some (.int .i64 x)) → Below wr.heap.size wr w' := fun w' h => h.1
          go_wp2
          go_region_held3 (fun w' => Below wr.heap.size wr w' ∧ (w'.cell? ⟨w.heap.size, 0, none⟩ = some (.bool ul) ∧ w'.cell? ⟨w.heap.size, 1, none⟩ = some (.bool uh) ∧ w'.cell? ⟨w.heap.size, 2, none⟩ = some (.bool true) ∧ w'.cell? ⟨w.heap.size, 3, none⟩ = some (.int .i64 lo) ∧ w'.cell? ⟨w.heap.size, 4, none⟩ = some (.int .i64 hi) ∧ w'.cell? ⟨w.heap.size, 5, none⟩ = some (.int .i64 hy)) ∧ (w'.cell? ⟨g1, 0, none⟩ = some (.int .i64 st) ∧ w'.cell? ⟨g1, 1, none⟩ = some (.bool wt)) ∧ w'.cell? ⟨b, o + k, none⟩ = some (.int .i64 x))
            ((refine HK.out _ ?_
              repeat' (first
                | with_reducible exact Below.refl _ _
                | with_reducible exact bel6
                | with_reducible exact belh _ (by assumption)
                | with_reducible apply below_drew
                | with_reducible apply below_drewN
                | with_reducible apply balB
                | with_reducible refine bsetB _ _ ?_ (Nat.le_refl _)
                | with_reducible refine bsetB _ _ ?_ (Below.size (by first | exact bel6 | exact belh _ (by assumption)))
                | fail)))
            (first
              | (go_at_call 10; refine (Step8_lit ul uh true lo hi hy st wt x 2 true 2 _ HS.out).mono ?_; rintro e w6 ⟨rfl, b6⟩; have bel6 : Below wr.heap.size wr w6 := Below.trans (belh _ (by assumption)) (b6.mono (Below.size (belh _ (by assumption)))); (try (have hbA := (b6.block wr.heap.size (by simp)).trans (by first | exact heap_alloc_new wr (.cells #[.int .i64 0, .bool false] 25) | exact heap_alloc_new wr.drew (.cells #[.int .i64 0, .bool false] 25) | exact heap_alloc_new (wr.drewN _) (.cells #[.int .i64 0, .bool false] 25)); obtain ⟨p0, p1⟩ := of2 hbA; obtain ⟨f0, f1⟩ := thaw2 hbA)))
              | fail)
          · have hbx := heap_alloc_new w6 (.cells #[.int .i64 2, .bool true] 25)
            have bel7 := balB bel6 (.cells #[.int .i64 2, .bool true] 25)
            generalize w6.alloc (.cells #[.int .i64 2, .bool true] 25) = w7 at *
            generalize w6.heap.size = g7 at *
            (try simp only [Exit.then])
            have hl7 := keepB bel7 hst.out.1
            have ha7 := keepB bel7 hst.out.2.1
            have hb7 := hst.out.2.2.trans (bel7.mono hsz)
            have hst8 : Hid ((put2 w7 g1 (.int .i64 2) (.bool true)).heap[w.heap.size]? = some (.cells #[.bool ul, .bool uh, .bool true, .int .i64 lo, .int .i64 hi, .int .i64 hy] 23 (0, 0)) ∧ (put2 w7 g1 (.int .i64 2) (.bool true)).heap[g1]? = some (.cells #[.int .i64 2, .bool true] 25 (0, 0)) ∧ Below w.heap.size w (put2 w7 g1 (.int .i64 2) (.bool true))) := Lib.hid ⟨(put2_other _ _ hne).trans hl7, put2_heap ha7 _ _, put2_below hb7 hlt1 _ _⟩
            obtain ⟨u0, u1⟩ := of2 hbx
            obtain ⟨t0, t1⟩ := of2 ha7
            obtain ⟨f0, f1⟩ := thaw2 ha7
            clear HK belh hbx bel7 hl7 ha7 hb7 hst
            go_wp2
            go_roundw
            case rel => exact ⟨k + 1, true, 2, true, by omega, rfl, by go_num, Lib.hid (.inr ⟨rfl, rfl, .inr rfl⟩), hst8⟩
            case measure => simp [intOf]; omega
          · have hbx := put2_heap hbA (.int .i64 2) (.bool true)
            have bel7 := put2_below bel6 (Nat.le_refl _) (.int .i64 2) (.bool true)
            show Exit.then _ _ _ _ (put2 w6 wr.heap.size (.int .i64 2) (.bool true))
            generalize put2 w6 wr.heap.size (.int .i64 2) (.bool true) = w7 at *
            (try simp only [Exit.then])
            have hl7 := keepB bel7 hst.out.1
            have ha7 := keepB bel7 hst.out.2.1
            have hb7 := hst.out.2.2.trans (bel7.mono hsz)
            have hst8 : Hid ((put2 w7 g1 (.int .i64 2) (.bool true)).heap[w.heap.size]? = some (.cells #[.bool ul, .bool uh, .bool true, .int .i64 lo, .int .i64 hi, .int .i64 hy] 23 (0, 0)) ∧ (put2 w7 g1 (.int .i64 2) (.bool true)).heap[g1]? = some (.cells #[.int .i64 2, .bool true] 25 (0, 0)) ∧ Below w.heap.size w (put2 w7 g1 (.int .i64 2) (.bool true))) := Lib.hid ⟨(put2_other _ _ hne).trans hl7, put2_heap ha7 _ _, put2_below hb7 hlt1 _ _⟩
            obtain ⟨u0, u1⟩ := of2 hbx
            obtain ⟨t0, t1⟩ := of2 ha7
            obtain ⟨f0, f1⟩ := thaw2 ha7
            clear HK belh hbx bel7 hl7 ha7 hb7 hst
            go_wp2
            go_roundw
            case rel => exact ⟨k + 1, true, 2, true, by omega, rfl, by go_num, Lib.hid (.inr ⟨rfl, rfl, .inr rfl⟩), hst8⟩
            case measure => simp [intOf]; omega
        · have HK : Hid (∀ w' : World, Below wr.heap.size wr w' → (Below wr.heap.size wr w' ∧ (w'.cell? ⟨w.heap.size, 0, none⟩ = some (.bool ul) ∧ w'.cell? ⟨w.heap.size, 1, none⟩ = some (.bool uh) ∧ w'.cell? ⟨w.heap.size, 2, none⟩ = some (.bool true) ∧ w'.cell? ⟨w.heap.size, 3, none⟩ = some (.int .i64 lo) ∧ w'.cell? ⟨w.heap.size, 4, none⟩ = some (.int .i64 hi) ∧ w'.cell? ⟨w.heap.size, 5, none⟩ = some (.int .i64 hy)) ∧ (w'.cell? ⟨g1, 0, none⟩ = some (.int .i64 st) ∧ w'.cell? ⟨g1, 1, none⟩ = some (.bool wt)) ∧ w'.cell? ⟨b, o + k, none⟩ = some (.int .i64 x))) := Lib.hid fun w' hw => ⟨hw, of6 (keepB hw (hst.out.1)), of2 (keepB hw (hst.out.2.1)), cellB hw (hb2) (hc1)⟩
          have belh : ∀ w' : World, (Below wr.heap.size wr w' ∧ (w'.cell? ⟨w.heap.size, 0, none⟩ = some (.bool ul) ∧ w'.cell? ⟨w.heap.size, 1, none⟩ = some (.bool uh) ∧ w'.cell? ⟨w.heap.size, 2, none⟩ = some (.bool true) ∧ w'.cell? ⟨w.heap.size, 3, none⟩ = some (.int .i64 lo) ∧ w'.cell? ⟨w.heap.size, 4, none⟩ = some (.int .i64 hi) ∧ w'.cell? ⟨w.heap.size, 5, none⟩ = some (.int .i64 hy)) ∧ (w'.cell? ⟨g1, 0, none⟩ = some (.int .i64 st) ∧ w'.cell? ⟨g1, 1, none⟩ = some (.bool wt)) ∧ w'.cell? ⟨b, o + k, none⟩ = some (.int .i64 x)) → Below wr.heap.size wr w' := fun w' h => h.1
          go_wp2
          go_region_held3 (fun w' => Below wr.heap.size wr w' ∧ (w'.cell? ⟨w.heap.size, 0, none⟩ = some (.bool ul) ∧ w'.cell? ⟨w.heap.size, 1, none⟩ = some (.bool uh) ∧ w'.cell? ⟨w.heap.size, 2, none⟩ = some (.bool true) ∧ w'.cell? ⟨w.heap.size, 3, none⟩ = some (.int .i64 lo) ∧ w'.cell? ⟨w.heap.size, 4, none⟩ = some (.int .i64 hi) ∧ w'.cell? ⟨w.heap.size, 5, none⟩ = some (.int .i64 hy)) ∧ (w'.cell? ⟨g1, 0, none⟩ = some (.int .i64 st) ∧ w'.cell? ⟨g1, 1, none⟩ = some (.bool wt)) ∧ w'.cell? ⟨b, o + k, none⟩ = some (.int .i64 x))
            ((refine HK.out _ ?_
              repeat' (first
                | with_reducible exact Below.refl _ _
                | with_reducible exact bel6
                | with_reducible exact belh _ (by assumption)
                | with_reducible apply below_drew
                | with_reducible apply below_drewN
                | with_reducible apply balB
                | with_reducible refine bsetB _ _ ?_ (Nat.le_refl _)
                | with_reducible refine bsetB _ _ ?_ (Below.size (by first | exact bel6 | exact belh _ (by assumption)))
                | fail)))
            (first
              | (go_at_call 10; refine (Step8_lit ul uh true lo hi hy st wt x 2 true 2 _ HS.out).mono ?_; rintro e w6 ⟨rfl, b6⟩; have bel6 : Below wr.heap.size wr w6 := Below.trans (belh _ (by assumption)) (b6.mono (Below.size (belh _ (by assumption)))); (try (have hbA := (b6.block wr.heap.size (by simp)).trans (by first | exact heap_alloc_new wr (.cells #[.int .i64 0, .bool false] 25) | exact heap_alloc_new wr.drew (.cells #[.int .i64 0, .bool false] 25) | exact heap_alloc_new (wr.drewN _) (.cells #[.int .i64 0, .bool false] 25)); obtain ⟨p0, p1⟩ := of2 hbA; obtain ⟨f0, f1⟩ := thaw2 hbA)))
              | fail)
          · have hbx := heap_alloc_new w6 (.cells #[.int .i64 2, .bool true] 25)
            have bel7 := balB bel6 (.cells #[.int .i64 2, .bool true] 25)
            generalize w6.alloc (.cells #[.int .i64 2, .bool true] 25) = w7 at *
            generalize w6.heap.size = g7 at *
            (try simp only [Exit.then])
            have hl7 := keepB bel7 hst.out.1
            have ha7 := keepB bel7 hst.out.2.1
            have hb7 := hst.out.2.2.trans (bel7.mono hsz)
            have hst8 : Hid ((put2 w7 g1 (.int .i64 2) (.bool true)).heap[w.heap.size]? = some (.cells #[.bool ul, .bool uh, .bool true, .int .i64 lo, .int .i64 hi, .int .i64 hy] 23 (0, 0)) ∧ (put2 w7 g1 (.int .i64 2) (.bool true)).heap[g1]? = some (.cells #[.int .i64 2, .bool true] 25 (0, 0)) ∧ Below w.heap.size w (put2 w7 g1 (.int .i64 2) (.bool true))) := Lib.hid ⟨(put2_other _ _ hne).trans hl7, put2_heap ha7 _ _, put2_below hb7 hlt1 _ _⟩
            obtain ⟨u0, u1⟩ := of2 hbx
            obtain ⟨t0, t1⟩ := of2 ha7
            obtain ⟨f0, f1⟩ := thaw2 ha7
            clear HK belh hbx bel7 hl7 ha7 hb7 hst
            go_wp2
            go_roundw
            case rel => exact ⟨k + 1, true, 2, true, by omega, rfl, by go_num, Lib.hid (.inr ⟨rfl, rfl, .inr rfl⟩), hst8⟩
            case measure => simp [intOf]; omega
          · have hbx := put2_heap hbA (.int .i64 2) (.bool true)
            have bel7 := put2_below bel6 (Nat.le_refl _) (.int .i64 2) (.bool true)
            show Exit.then _ _ _ _ (put2 w6 wr.heap.size (.int .i64 2) (.bool true))
            generalize put2 w6 wr.heap.size (.int .i64 2) (.bool true) = w7 at *
            (try simp only [Exit.then])
            have hl7 := keepB bel7 hst.out.1
            have ha7 := keepB bel7 hst.out.2.1
            have hb7 := hst.out.2.2.trans (bel7.mono hsz)
            have hst8 : Hid ((put2 w7 g1 (.int .i64 2) (.bool true)).heap[w.heap.size]? = some (.cells #[.bool ul, .bool uh, .bool true, .int .i64 lo, .int .i64 hi, .int .i64 hy] 23 (0, 0)) ∧ (put2 w7 g1 (.int .i64 2) (.bool true)).heap[g1]? = some (.cells #[.int .i64 2, .bool true] 25 (0, 0)) ∧ Below w.heap.size w (put2 w7 g1 (.int .i64 2) (.bool true))) := Lib.hid ⟨(put2_other _ _ hne).trans hl7, put2_heap ha7 _ _, put2_below hb7 hlt1 _ _⟩
            obtain ⟨u0, u1⟩ := of2 hbx
            obtain ⟨t0, t1⟩ := of2 ha7
            obtain ⟨f0, f1⟩ := thaw2 ha7
            clear HK belh hbx bel7 hl7 ha7 hb7 hst
            go_wp2
            go_roundw
            case rel => exact ⟨k + 1, true, 2, true, by omega, rfl, by go_num, Lib.hid (.inr ⟨rfl, rfl, .inr rfl⟩), hst8⟩
            case measure => simp [intOf]; omega
    · obtain rfl : k = n := by omega
      have bel := hst.out.2.2
      have hla := hlat.out
      obtain ⟨c1, c2, c3, c4, c5, c6⟩ := of6 hst.out.1
      obtain ⟨d1, d2⟩ := of2 hst.out.2.1
      clear hlat hlt
      rcases hla with ⟨rfl, rfl, rfl⟩ | ⟨rfl, rfl, h12⟩
      · go_wp2_with fail
        refine (Ack8_lit 0 false 0 false false _ rfl).mono ?_
        rintro e w2 ⟨rfl, b2⟩
        have hk2 := balB b2 (.cells #[.int .i64 0, .bool false] 25)
        have x2 := heap_alloc_new w2 (.cells #[.int .i64 0, .bool false] 25)
        have bel2 := bel.trans (hk2.mono bel.size)
        obtain ⟨e1, e2⟩ := of2 x2
        obtain ⟨d1, d2⟩ := of2 (keepB hk2 hst.out.2.1)
        clear b2 hk2 bel x2 hst
        go_wp2_with fail
        refine (works8_yes _).mono ?_
        rintro e w3 ⟨rfl, b3⟩
        go_wp2
        go_ret
        exact ⟨rfl, bel2.trans (b3.mono bel2.size)⟩
      · clear c1 c2 c3 c4 c5 c6 
        obtain ⟨c1, c2, c3, c4, c5, c6⟩ := of6 hst.out.1
        cases ul
        · go_wp2_with fail
          refine (Ack8_lit st true st false true _ rfl).mono ?_
          rintro e w2 ⟨rfl, b2⟩
          have hk2 := balB b2 (.cells #[.int .i64 st, .bool false] 25)
          have x2 := heap_alloc_new w2 (.cells #[.int .i64 st, .bool false] 25)
          have bel2 := bel.trans (hk2.mono bel.size)
          have l2 := keepB hk2 hst.out.1
          have a2 := keepB hk2 hst.out.2.1
          obtain ⟨e1, e2⟩ := of2 x2
          obtain ⟨d1, d2⟩ := of2 a2
          obtain ⟨c1, c2, c3, c4, c5, c6⟩ := of6 l2
          clear b2 hk2 bel hst
          go_wp2_with fail
          refine (works8_yes _).mono ?_
          rintro e w3 ⟨rfl, b3⟩
          go_wp2
          go_ret
          exact ⟨rfl, bel2.trans (b3.mono bel2.size)⟩
        by_cases h1 : st = 1
        · subst h1
          cases uh
          · go_wp2_with fail
            refine (Ack8_lit 1 true 1 false true _ rfl).mono ?_
            rintro e w2 ⟨rfl, b2⟩
            have hk2 := balB b2 (.cells #[.int .i64 1, .bool false] 25)
            have x2 := heap_alloc_new w2 (.cells #[.int .i64 1, .bool false] 25)
            have bel2 := bel.trans (hk2.mono bel.size)
            have l2 := keepB hk2 hst.out.1
            have a2 := keepB hk2 hst.out.2.1
            obtain ⟨e1, e2⟩ := of2 x2
            obtain ⟨d1, d2⟩ := of2 a2
            obtain ⟨c1, c2, c3, c4, c5, c6⟩ := of6 l2
            clear b2 hk2 bel hst
            go_wp2_with fail
            refine (Step8_lit true false true lo hi hy 1 false 3298534883328 0 false 3 _ (lat_clear lo hi hy HOK.out)).mono ?_
            rintro e w3 ⟨rfl, b3⟩
            have hk3 := balB b3 (.cells #[.int .i64 0, .bool false] 25)
            have y3 := heap_alloc_new w3 (.cells #[.int .i64 0, .bool false] 25)
            have bel3 := bel2.trans (hk3.mono bel2.size)
            obtain ⟨f1, f2⟩ := of2 y3
            clear b3 hk3 bel2 y3 x2 l2 a2 c1 c2 c3 c4 c5 c6 d1 d2 e1 e2
            go_wp2_with fail
            refine (works8_yes _).mono ?_
            rintro e w4 ⟨rfl, b4⟩
            go_wp2
            go_ret
            exact ⟨rfl, bel3.trans (b4.mono bel3.size)⟩
          · go_wp2_with fail
            refine (Ack8_lit 1 true 1 false true _ rfl).mono ?_
            rintro e w2 ⟨rfl, b2⟩
            have hk2 := balB b2 (.cells #[.int .i64 1, .bool false] 25)
            have x2 := heap_alloc_new w2 (.cells #[.int .i64 1, .bool false] 25)
            have bel2 := bel.trans (hk2.mono bel.size)
            have l2 := keepB hk2 hst.out.1
            have a2 := keepB hk2 hst.out.2.1
            obtain ⟨e1, e2⟩ := of2 x2
            obtain ⟨d1, d2⟩ := of2 a2
            obtain ⟨c1, c2, c3, c4, c5, c6⟩ := of6 l2
            clear b2 hk2 bel hst
            go_wp2_with fail
            refine (works8_yes _).mono ?_
            rintro e w3 ⟨rfl, b3⟩
            go_wp2
            go_ret
            exact ⟨rfl, bel2.trans (b3.mono bel2.size)⟩
        · go_wp2_with fail
          refine (Ack8_lit st true st false true _ rfl).mono ?_
          rintro e w2 ⟨rfl, b2⟩
          have hk2 := balB b2 (.cells #[.int .i64 st, .bool false] 25)
          have x2 := heap_alloc_new w2 (.cells #[.int .i64 st, .bool false] 25)
          have bel2 := bel.trans (hk2.mono bel.size)
          have l2 := keepB hk2 hst.out.1
          have a2 := keepB hk2 hst.out.2.1
          obtain ⟨e1, e2⟩ := of2 x2
          obtain ⟨d1, d2⟩ := of2 a2
          obtain ⟨c1, c2, c3, c4, c5, c6⟩ := of6 l2
          clear b2 hk2 bel hst
          go_wp2_with fail
          refine (works8_yes _).mono ?_
          rintro e w3 ⟨rfl, b3⟩
          go_wp2
          go_ret
          exact ⟨rfl, bel2.trans (b3.mono bel2.size)⟩
end Go.Proofs.Ytlbblddpfijciaa
