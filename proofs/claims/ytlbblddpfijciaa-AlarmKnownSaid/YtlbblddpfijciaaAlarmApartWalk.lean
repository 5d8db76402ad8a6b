/-
  The walk of AlarmApart.
-/
import Derived.Test.YtlbblddpfijciaaAlInside
import Derived.Test.YtlbblddpfijciaaAlLatch
namespace Go.Proofs.Ytlbblddpfijciaa
open Go.RowKit
set_option linter.unusedVariables false

set_option maxHeartbeats 4000000 in
set_option maxRecDepth 100000 in
theorem walk_AlarmApart (ul uh la : Bool) (lo hi hy : Int) (A : Option Addr) (n c : Nat) (xs : List Int) (w : World) (wl : Lim.Ok ⟨ul, uh, la, lo, hi, hy⟩) (hr : Row .i64 w w.heap.size A xs) (hn : xs.length = n) (hc : n ≤ c) (hb : c ≤ 140737488351232) :
    Calls Try.prog 8 #[.agg #[.bool ul, .bool uh, .bool la, .int .i64 lo, .int .i64 hi, .int .i64 hy], .slice A n c] w fun e w' => e = .returned (.bool true) ∧ Below w.heap.size w w' := by
  have bl0 := heap_alloc_new w (.cells #[.bool ul, .bool uh, .bool la, .int .i64 lo, .int .i64 hi, .int .i64 hy] 23)
  have bel0 := bel_alloc w (.cells #[.bool ul, .bool uh, .bool la, .int .i64 lo, .int .i64 hi, .int .i64 hy] 23)
  by_cases hbig : (65536 : Int) < n
  · go_enter Try.func8, Try.ntmps8
    go_wp2_with fail
    refine (works8_yes _).mono ?_
    rintro e w1 ⟨rfl, b1⟩
    go_wp2
    go_ret
    exact ⟨rfl, bel0.trans (b1.mono bel0.size)⟩
  have hn' := Lib.hid hn
  clear hn hb wl
  cases hok : okL ⟨ul, uh, la, lo, hi, hy⟩ with
  | false =>
    go_enter Try.func8, Try.ntmps8
    go_wp2_with fail
    refine (Check8_any ul uh la lo hi hy _).mono ?_
    rintro e w1 ⟨rfl, b1⟩
    rw [chkL_bad hok]
    have bel1 := bel0.trans (b1.mono bel0.size)
    clear bl0 bel0 b1
    go_wp2_with fail
    refine (works8_yes _).mono ?_
    rintro e w2 ⟨rfl, b2⟩
    go_wp2
    go_ret
    exact ⟨rfl, bel1.trans (b2.mono bel1.size)⟩
  | true =>
  have HOK := Lib.hid hok
  obtain ⟨k1, k2, k3, k4, k5, k6, _⟩ := okL_of hok
  simp only at k1 k2 k3 k4 k5 k6
  have v1 : IntKind.i64.wrap (lo + hy) = lo + hy := by rw [IntKind.wrap_i64]; omega
  have v2 : IntKind.i64.wrap (hi - hy) = hi - hy := by rw [IntKind.wrap_i64]; omega
  clear k1 k2 k3 k4 k5 k6
  go_enter Try.func8, Try.ntmps8
  go_wp2_with fail
  refine (Check8_any ul uh la lo hi hy _).mono ?_
  rintro e w1 ⟨rfl, b1⟩
  rw [chkL_ok hok]
  have hk1 := balB b1 (.cells #[.int .i64 0, .bool false] 25)
  have l1 := keepB hk1 bl0
  have a1 := heap_alloc_new w1 (.cells #[.int .i64 0, .bool false] 25)
  have bel1 := bel0.trans (hk1.mono bel0.size)
  have hne : w.heap.size ≠ w1.heap.size := by have := b1.size; simp at this; omega
  have hlt1 : w.heap.size ≤ w1.heap.size := by have := b1.size; simp at this; omega
  clear bl0 bel0 b1 hk1 hok
  go_wp2
  generalize w1.alloc (.cells #[.int .i64 0, .bool false] 25) = w0 at *
  generalize w1.heap.size = g1 at *
  go_loopw [6, 7, 8] (fun s t i wr => ∃ (k : Nat) (lw hg : Bool) (st : Int) (wt : Bool), k ≤ n ∧ s = .bool lw ∧ t = .bool hg ∧ i = .int .i64 k ∧ Hid (ApI ⟨ul, uh, la, lo, hi, hy⟩ lw hg st) ∧ Hid (wr.heap[w.heap.size]? = some (.cells #[.bool ul, .bool uh, .bool la, .int .i64 lo, .int .i64 hi, .int .i64 hy] 23 (0, 0)) ∧ wr.heap[g1]? = some (.cells #[.int .i64 st, .bool wt] 25 (0, 0)) ∧ Below w.heap.size w wr)) (fun _ _ i _ => n - (intOf i).toNat)
  case atStart => exact ⟨0, true, true, 0, false, by omega, rfl, rfl, rfl, Lib.hid ⟨.inl rfl, .inl rfl⟩, Lib.hid ⟨l1, a1, bel1⟩⟩
  case round =>
    clear l1 a1 bel1
    obtain ⟨k, lw, hg, st, wt, hk, rfl, rfl, rfl, hap, hst⟩ := hrel
    by_cases hlt : k < n
    · obtain ⟨b, o, rfl, hb1, hc1⟩ := (hr.below hst.out.2.2).at_ (i := k) (by have := hn'.out; omega)
      obtain ⟨x, hx⟩ : ∃ x, nth xs k = x := ⟨_, rfl⟩
      rw [hx] at hc1
      clear hx
      have hlt' : (k : Int) < n := by omega
      have h0 : (0 : Int) ≤ k := by omega
      have HR := ap_round ⟨ul, uh, la, lo, hi, hy⟩ lw hg st wt x HOK.out hap.out
      simp only at HR
      obtain ⟨lw', hlw⟩ : ∃ q, (lw || decide (x > lo + hy)) = q := ⟨_, rfl⟩
      obtain ⟨hg', hhg⟩ : ∃ q, (hg || decide (x < hi - hy)) = q := ⟨_, rfl⟩
      rw [hlw, hhg] at HR
      have HR := Lib.hid HR
      obtain ⟨c1, c2, c3, c4, c5, c6⟩ := of6 hst.out.1
      have HLW := Lib.hid hlw
      have HHG := Lib.hid hhg
      clear hlw hhg hap
      go_upto_region 9 with fail
      go_cut [6] from 20 to 80 (fun s wx => s = .bool lw' ∧ Hid (∃ m, wx = wr.drewN m))
      case first =>
        cases lw with
        | true =>
          have e1 : Hid (lw' = true) := Lib.hid HLW.out.symm
          go_wp2
          go_quiet (fail)
          go_wp2
          go_meet
          exact ⟨by rw [e1.out], Lib.hid ⟨_, rfl⟩⟩
        | false =>
          have e1 : Hid (lw' = decide (x > lo + hy)) := Lib.hid HLW.out.symm
          go_wp2
          go_quiet (fail)
          go_wp2
          go_meet
          exact ⟨by rw [e1.out], Lib.hid ⟨_, rfl⟩⟩
      case rest =>
      obtain ⟨rfl, hwc⟩ := hcut
      obtain ⟨m, hm⟩ := hwc.out
      have hst2 : Hid (wc.heap[w.heap.size]? = some (.cells #[.bool ul, .bool uh, .bool la, .int .i64 lo, .int .i64 hi, .int .i64 hy] 23 (0, 0)) ∧ wc.heap[g1]? = some (.cells #[.int .i64 st, .bool wt] 25 (0, 0)) ∧ Below w.heap.size w wc) := Lib.hid (by rw [hm]; exact ⟨hst.out.1, hst.out.2.1, below_drewN hst.out.2.2 m⟩)
      have hc2 : wc.cell? ⟨b, o + k, none⟩ = some (.int .i64 x) := by rw [hm]; exact hc1
      clear hwc hm hst hc1 c1 c2 c3 c4 c5 c6
      obtain ⟨c1, c2, c3, c4, c5, c6⟩ := of6 hst2.out.1
      go_upto_region 10 with fail
      go_cut [7] from 20 to 80 (fun s wx => s = .bool hg' ∧ Hid (∃ m, wx = wc.drewN m))
      case first =>
        cases hg with
        | true =>
          have e1 : Hid (hg' = true) := Lib.hid HHG.out.symm
          go_wp2
          go_quiet (fail)
          go_wp2
          go_meet
          exact ⟨by rw [e1.out], Lib.hid ⟨_, rfl⟩⟩
        | false =>
          have e1 : Hid (hg' = decide (x < hi - hy)) := Lib.hid HHG.out.symm
          go_wp2
          go_quiet (fail)
          go_wp2
          go_meet
          exact ⟨by rw [e1.out], Lib.hid ⟨_, rfl⟩⟩
      case rest =>
      obtain ⟨rfl, hwc⟩ := hcut
      obtain ⟨m, hm⟩ := hwc.out
      rename World => wd
      have hst3 : Hid (wd.heap[w.heap.size]? = some (.cells #[.bool ul, .bool uh, .bool la, .int .i64 lo, .int .i64 hi, .int .i64 hy] 23 (0, 0)) ∧ wd.heap[g1]? = some (.cells #[.int .i64 st, .bool wt] 25 (0, 0)) ∧ Below w.heap.size w wd) := Lib.hid (by rw [hm]; exact ⟨hst2.out.1, hst2.out.2.1, below_drewN hst2.out.2.2 m⟩)
      have hc3 : wd.cell? ⟨b, o + k, none⟩ = some (.int .i64 x) := by rw [hm]; exact hc2
      clear hwc hm hst2 hc2 c1 c2 c3 c4 c5 c6
      have hsz := hst3.out.2.2.size
      have hb3 : b < wd.heap.size := by omega
      rcases HR.out with ⟨hs, ha⟩ | ⟨hs, rfl, ha⟩ | ⟨hs, rfl, ha⟩ | ⟨hs, ha⟩
      · have HS := Lib.hid hs
        have HA := Lib.hid ha
        clear hs ha HR HLW HHG
        have HK : Hid (∀ w' : World, Below wd.heap.size wd w' → (Below wd.heap.size wd w' ∧ (w'.cell? ⟨w.heap.size, 0, none⟩ = some (.bool ul) ∧ w'.cell? ⟨w.heap.size, 1, none⟩ = some (.bool uh) ∧ w'.cell? ⟨w.heap.size, 2, none⟩ = some (.bool la) ∧ w'.cell? ⟨w.heap.size, 3, none⟩ = some (.int .i64 lo) ∧ w'.cell? ⟨w.heap.size, 4, none⟩ = some (.int .i64 hi) ∧ w'.cell? ⟨w.heap.size, 5, none⟩ = some (.int .i64 hy)) ∧ (w'.cell? ⟨g1, 0, none⟩ = some (.int .i64 st) ∧ w'.cell? ⟨g1, 1, none⟩ = some (.bool wt)) ∧ w'.cell? ⟨b, o + k, none⟩ = some (.int .i64 x))) := Lib.hid fun w' hw => ⟨hw, of6 (keepB hw (hst3.out.1)), of2 (keepB hw (hst3.out.2.1)), cellB hw (hb3) (hc3)⟩
        have belh : ∀ w' : World, (Below wd.heap.size wd w' ∧ (w'.cell? ⟨w.heap.size, 0, none⟩ = some (.bool ul) ∧ w'.cell? ⟨w.heap.size, 1, none⟩ = some (.bool uh) ∧ w'.cell? ⟨w.heap.size, 2, none⟩ = some (.bool la) ∧ w'.cell? ⟨w.heap.size, 3, none⟩ = some (.int .i64 lo) ∧ w'.cell? ⟨w.heap.size, 4, none⟩ = some (.int .i64 hi) ∧ w'.cell? ⟨w.heap.size, 5, none⟩ = some (.int .i64 hy)) ∧ (w'.cell? ⟨g1, 0, none⟩ = some (.int .i64 st) ∧ w'.cell? ⟨g1, 1, none⟩ = some (.bool wt)) ∧ w'.cell? ⟨b, o + k, none⟩ = some (.int .i64 x)) → Below wd.heap.size wd w' := fun w' h => h.1
        go_wp2
        go_region_held3 (fun w' => Below wd.heap.size wd w' ∧ (w'.cell? ⟨w.heap.size, 0, none⟩ = some (.bool ul) ∧ w'.cell? ⟨w.heap.size, 1, none⟩ = some (.bool uh) ∧ w'.cell? ⟨w.heap.size, 2, none⟩ = some (.bool la) ∧ w'.cell? ⟨w.heap.size, 3, none⟩ = some (.int .i64 lo) ∧ w'.cell? ⟨w.heap.size, 4, none⟩ = some (.int .i64 hi) ∧ w'.cell? ⟨w.heap.size, 5, none⟩ = some (.int .i64 hy)) ∧ (w'.cell? ⟨g1, 0, none⟩ = some (.int .i64 st) ∧ w'.cell? ⟨g1, 1, none⟩ = some (.bool wt)) ∧ w'.cell? ⟨b, o + k, none⟩ = some (.int .i64 x))
          ((refine HK.out _ ?_
            repeat' (first
              | with_reducible exact Below.refl _ _
              | with_reducible exact bel6
              | with_reducible exact belh _ (by assumption)
              | with_reducible apply below_drew
              | with_reducible apply below_drewN
              | with_reducible apply balB
              | with_reducible refine bsetB _ _ ?_ (Nat.le_refl _)
              | with_reducible refine bsetB _ _ ?_ (Below.size (by first | exact bel6 | exact belh _ (by assumption)))
              | fail)))
          (first
            | (go_at_call 10; refine (Step8_lit ul uh la lo hi hy st wt x st wt 0 _ HS.out).mono ?_; rintro e w6 ⟨rfl, b6⟩; have bel6 : Below wd.heap.size wd w6 := Below.trans (belh _ (by assumption)) (b6.mono (Below.size (belh _ (by assumption)))); (try (have hbA := (b6.block wd.heap.size (by simp)).trans (by first | exact heap_alloc_new wd (.cells #[.int .i64 0, .bool false] 25) | exact heap_alloc_new wd.drew (.cells #[.int .i64 0, .bool false] 25) | exact heap_alloc_new (wd.drewN _) (.cells #[.int .i64 0, .bool false] 25)); obtain ⟨p0, p1⟩ := of2 hbA; obtain ⟨f0, f1⟩ := thaw2 hbA)))
            | fail)
        · have hbx := heap_alloc_new w6 (.cells #[.int .i64 st, .bool wt] 25)
          have bel7 := balB bel6 (.cells #[.int .i64 st, .bool wt] 25)
          generalize w6.alloc (.cells #[.int .i64 st, .bool wt] 25) = w7 at *
          generalize w6.heap.size = g7 at *
          (try simp only [Exit.then])
          have hl7 := keepB bel7 hst3.out.1
          have ha7 := keepB bel7 hst3.out.2.1
          have hb7 := hst3.out.2.2.trans (bel7.mono hsz)
          have hst8 : Hid ((put2 w7 g1 (.int .i64 st) (.bool wt)).heap[w.heap.size]? = some (.cells #[.bool ul, .bool uh, .bool la, .int .i64 lo, .int .i64 hi, .int .i64 hy] 23 (0, 0)) ∧ (put2 w7 g1 (.int .i64 st) (.bool wt)).heap[g1]? = some (.cells #[.int .i64 st, .bool wt] 25 (0, 0)) ∧ Below w.heap.size w (put2 w7 g1 (.int .i64 st) (.bool wt))) := Lib.hid ⟨(put2_other _ _ hne).trans hl7, put2_heap ha7 _ _, put2_below hb7 hlt1 _ _⟩
          obtain ⟨u0, u1⟩ := of2 hbx
          obtain ⟨t0, t1⟩ := of2 ha7
          obtain ⟨f0, f1⟩ := thaw2 ha7
          clear HK belh hbx bel7 hl7 ha7 hb7 hst3
          go_wp2
          go_roundw
          case rel => exact ⟨k + 1, lw', hg', st, wt, by omega, rfl, rfl, by go_num, HA, hst8⟩
          case measure => simp [intOf]; omega
        · have hbx := put2_heap hbA (.int .i64 st) (.bool wt)
          have bel7 := put2_below bel6 (Nat.le_refl _) (.int .i64 st) (.bool wt)
          show Exit.then _ _ _ _ (put2 w6 wd.heap.size (.int .i64 st) (.bool wt))
          generalize put2 w6 wd.heap.size (.int .i64 st) (.bool wt) = w7 at *
          (try simp only [Exit.then])
          have hl7 := keepB bel7 hst3.out.1
          have ha7 := keepB bel7 hst3.out.2.1
          have hb7 := hst3.out.2.2.trans (bel7.mono hsz)
          have hst8 : Hid ((put2 w7 g1 (.int .i64 st) (.bool wt)).heap[w.heap.size]? = some (.cells #[.bool ul, .bool uh, .bool la, .int .i64 lo, .int .i64 hi, .int .i64 hy] 23 (0, 0)) ∧ (put2 w7 g1 (.int .i64 st) (.bool wt)).heap[g1]? = some (.cells #[.int .i64 st, .bool wt] 25 (0, 0)) ∧ Below w.heap.size w (put2 w7 g1 (.int .i64 st) (.bool wt))) := Lib.hid ⟨(put2_other _ _ hne).trans hl7, put2_heap ha7 _ _, put2_below hb7 hlt1 _ _⟩
          obtain ⟨u0, u1⟩ := of2 hbx
          obtain ⟨t0, t1⟩ := of2 ha7
          obtain ⟨f0, f1⟩ := thaw2 ha7
          clear HK belh hbx bel7 hl7 ha7 hb7 hst3
          go_wp2
          go_roundw
          case rel => exact ⟨k + 1, lw', hg', st, wt, by omega, rfl, rfl, by go_num, HA, hst8⟩
          case measure => simp [intOf]; omega
      · have HS := Lib.hid hs
        have HA := Lib.hid ha
        clear hs ha HR HLW HHG
        have HK : Hid (∀ w' : World, Below wd.heap.size wd w' → (Below wd.heap.size wd w' ∧ (w'.cell? ⟨w.heap.size, 0, none⟩ = some (.bool ul) ∧ w'.cell? ⟨w.heap.size, 1, none⟩ = some (.bool uh) ∧ w'.cell? ⟨w.heap.size, 2, none⟩ = some (.bool la) ∧ w'.cell? ⟨w.heap.size, 3, none⟩ = some (.int .i64 lo) ∧ w'.cell? ⟨w.heap.size, 4, none⟩ = some (.int .i64 hi) ∧ w'.cell? ⟨w.heap.size, 5, none⟩ = some (.int .i64 hy)) ∧ (w'.cell? ⟨g1, 0, none⟩ = some (.int .i64 st) ∧ w'.cell? ⟨g1, 1, none⟩ = some (.bool wt)) ∧ w'.cell? ⟨b, o + k, none⟩ = some (.int .i64 x))) := Lib.hid fun w' hw => ⟨hw, of6 (keepB hw (hst3.out.1)), of2 (keepB hw (hst3.out.2.1)), cellB hw (hb3) (hc3)⟩
        have belh : ∀ w' : World, (Below wd.heap.size wd w' ∧ (w'.cell? ⟨w.heap.size, 0, none⟩ = some (.bool ul) ∧ w'.cell? ⟨w.heap.size, 1, none⟩ = some (.bool uh) ∧ w'.cell? ⟨w.heap.size, 2, none⟩ = some (.bool la) ∧ w'.cell? ⟨w.heap.size, 3, none⟩ = some (.int .i64 lo) ∧ w'.cell? ⟨w.heap.size, 4, none⟩ = some (.int .i64 hi) ∧ w'.cell? ⟨w.heap.size, 5, none⟩ = some (.int .i64 hy)) ∧ (w'.cell? ⟨g1, 0, none⟩ = some (.int .i64 st) ∧ w'.cell? ⟨g1, 1, none⟩ = some (.bool wt)) ∧ w'.cell? ⟨b, o + k, none⟩ = some (.int .i64 x)) → Below wd.heap.size wd w' := fun w' h => h.1
        go_wp2
        go_region_held3 (fun w' => Below wd.heap.size wd w' ∧ (w'.cell? ⟨w.heap.size, 0, none⟩ = some (.bool ul) ∧ w'.cell? ⟨w.heap.size, 1, none⟩ = some (.bool uh) ∧ w'.cell? ⟨w.heap.size, 2, none⟩ = some (.bool la) ∧ w'.cell? ⟨w.heap.size, 3, none⟩ = some (.int .i64 lo) ∧ w'.cell? ⟨w.heap.size, 4, none⟩ = some (.int .i64 hi) ∧ w'.cell? ⟨w.heap.size, 5, none⟩ = some (.int .i64 hy)) ∧ (w'.cell? ⟨g1, 0, none⟩ = some (.int .i64 st) ∧ w'.cell? ⟨g1, 1, none⟩ = some (.bool wt)) ∧ w'.cell? ⟨b, o + k, none⟩ = some (.int .i64 x))
          ((refine HK.out _ ?_
            repeat' (first
              | with_reducible exact Below.refl _ _
              | with_reducible exact bel6
              | with_reducible exact belh _ (by assumption)
              | with_reducible apply below_drew
              | with_reducible apply below_drewN
              | with_reducible apply balB
              | with_reducible refine bsetB _ _ ?_ (Nat.le_refl _)
              | with_reducible refine bsetB _ _ ?_ (Below.size (by first | exact bel6 | exact belh _ (by assumption)))
              | fail)))
          (first
            | (go_at_call 10; refine (Step8_lit ul uh la lo hi hy st wt x 1 true 1 _ HS.out).mono ?_; rintro e w6 ⟨rfl, b6⟩; have bel6 : Below wd.heap.size wd w6 := Below.trans (belh _ (by assumption)) (b6.mono (Below.size (belh _ (by assumption)))); (try (have hbA := (b6.block wd.heap.size (by simp)).trans (by first | exact heap_alloc_new wd (.cells #[.int .i64 0, .bool false] 25) | exact heap_alloc_new wd.drew (.cells #[.int .i64 0, .bool false] 25) | exact heap_alloc_new (wd.drewN _) (.cells #[.int .i64 0, .bool false] 25)); obtain ⟨p0, p1⟩ := of2 hbA; obtain ⟨f0, f1⟩ := thaw2 hbA)))
            | fail)
        · have hbx := heap_alloc_new w6 (.cells #[.int .i64 1, .bool true] 25)
          have bel7 := balB bel6 (.cells #[.int .i64 1, .bool true] 25)
          generalize w6.alloc (.cells #[.int .i64 1, .bool true] 25) = w7 at *
          generalize w6.heap.size = g7 at *
          (try simp only [Exit.then])
          have hl7 := keepB bel7 hst3.out.1
          have ha7 := keepB bel7 hst3.out.2.1
          have hb7 := hst3.out.2.2.trans (bel7.mono hsz)
          have hst8 : Hid ((put2 w7 g1 (.int .i64 1) (.bool true)).heap[w.heap.size]? = some (.cells #[.bool ul, .bool uh, .bool la, .int .i64 lo, .int .i64 hi, .int .i64 hy] 23 (0, 0)) ∧ (put2 w7 g1 (.int .i64 1) (.bool true)).heap[g1]? = some (.cells #[.int .i64 1, .bool true] 25 (0, 0)) ∧ Below w.heap.size w (put2 w7 g1 (.int .i64 1) (.bool true))) := Lib.hid ⟨(put2_other _ _ hne).trans hl7, put2_heap ha7 _ _, put2_below hb7 hlt1 _ _⟩
          obtain ⟨u0, u1⟩ := of2 hbx
          obtain ⟨t0, t1⟩ := of2 ha7
          obtain ⟨f0, f1⟩ := thaw2 ha7
          clear HK belh hbx bel7 hl7 ha7 hb7 hst3
          go_wp2
          go_roundw
          case rel => exact ⟨k + 1, false, hg', 1, true, by omega, rfl, rfl, by go_num, HA, hst8⟩
          case measure => simp [intOf]; omega
        · have hbx := put2_heap hbA (.int .i64 1) (.bool true)
          have bel7 := put2_below bel6 (Nat.le_refl _) (.int .i64 1) (.bool true)
          show Exit.then _ _ _ _ (put2 w6 wd.heap.size (.int .i64 1) (.bool true))
          generalize put2 w6 wd.heap.size (.int .i64 1) (.bool true) = w7 at *
          (try simp only [Exit.then])
          have hl7 := keepB bel7 hst3.out.1
          have ha7 := keepB bel7 hst3.out.2.1
          have hb7 := hst3.out.2.2.trans (bel7.mono hsz)
          have hst8 : Hid ((put2 w7 g1 (.int .i64 1) (.bool true)).heap[w.heap.size]? = some (.cells #[.bool ul, .bool uh, .bool la, .int .i64 lo, .int .i64 hi, .int .i64 hy] 23 (0, 0)) ∧ (put2 w7 g1 (.int .i64 1) (.bool true)).heap[g1]? = some (.cells #[.int .i64 1, .bool true] 25 (0, 0)) ∧ Below w.heap.size w (put2 w7 g1 (.int .i64 1) (.bool true))) := Lib.hid ⟨(put2_other _ _ hne).trans hl7, put2_heap ha7 _ _, put2_below hb7 hlt1 _ _⟩
          obtain ⟨u0, u1⟩ := of2 hbx
          obtain ⟨t0, t1⟩ := of2 ha7
          obtain ⟨f0, f1⟩ := thaw2 ha7
          clear HK belh hbx bel7 hl7 ha7 hb7 hst3
          go_wp2
          go_roundw
          case rel => exact ⟨k + 1, false, hg', 1, true, by omega, rfl, rfl, by go_num, HA, hst8⟩
          case measure => simp [intOf]; omega
      · have HS := Lib.hid hs
        have HA := Lib.hid ha
        clear hs ha HR HLW HHG
        have HK : Hid (∀ w' : World, Below wd.heap.size wd w' → (Below wd.heap.size wd w' ∧ (w'.cell? ⟨w.heap.size, 0, none⟩ = some (.bool ul) ∧ w'.cell? ⟨w.heap.size, 1, none⟩ = some (.bool uh) ∧ w'.cell? ⟨w.heap.size, 2, none⟩ = some (.bool la) ∧ w'.cell? ⟨w.heap.size, 3, none⟩ = some (.int .i64 lo) ∧ w'.cell? ⟨w.heap.size, 4, none⟩ = some (.int .i64 hi) ∧ w'.cell? ⟨w.heap.size, 5, none⟩ = some (.int .i64 hy)) ∧ (w'.cell? ⟨g1, 0, none⟩ = some (.int .i64 st) ∧ w'.cell? ⟨g1, 1, none⟩ = some (.bool wt)) ∧ w'.cell? ⟨b, o + k, none⟩ = some (.int .i64 x))) := Lib.hid fun w' hw => ⟨hw, of6 (keepB hw (hst3.out.1)), of2 (keepB hw (hst3.out.2.1)), cellB hw (hb3) (hc3)⟩
        have belh : ∀ w' : World, (Below wd.heap.size wd w' ∧ (w'.cell? ⟨w.heap.size, 0, none⟩ = some (.bool ul) ∧ w'.cell? ⟨w.heap.size, 1, none⟩ = some (.bool uh) ∧ w'.cell? ⟨w.heap.size, 2, none⟩ = some (.bool la) ∧ w'.cell? ⟨w.heap.size, 3, none⟩ = some (.int .i64 lo) ∧ w'.cell? ⟨w.heap.size, 4, none⟩ = some (.int .i64 hi) ∧ w'.cell? ⟨w.heap.size, 5, none⟩ = some (.int .i64 hy)) ∧ (w'.cell? ⟨g1, 0, none⟩ = some (.int .i64 st) ∧ w'.cell? ⟨g1, 1, none⟩ = some (.bool wt)) ∧ w'.cell? ⟨b, o + k, none⟩ = some (.int .i64 x)) → Below wd.heap.size wd w' := fun w' h => h.1
        go_wp2
        go_region_held3 (fun w' => Below wd.heap.size wd w' ∧ (w'.cell? ⟨w.heap.size, 0, none⟩ = some (.bool ul) ∧ w'.cell? ⟨w.heap.size, 1, none⟩ = some (.bool uh) ∧ w'.cell? ⟨w.heap.size, 2, none⟩ = some (.bool la) ∧ w'.cell? ⟨w.heap.size, 3, none⟩ = some (.int .i64 lo) ∧ w'.cell? ⟨w.heap.size, 4, none⟩ = some (.int .i64 hi) ∧ w'.cell? ⟨w.heap.size, 5, none⟩ = some (.int .i64 hy)) ∧ (w'.cell? ⟨g1, 0, none⟩ = some (.int .i64 st) ∧ w'.cell? ⟨g1, 1, none⟩ = some (.bool wt)) ∧ w'.cell? ⟨b, o + k, none⟩ = some (.int .i64 x))
          ((refine HK.out _ ?_
            repeat' (first
              | with_reducible exact Below.refl _ _
              | with_reducible exact bel6
              | with_reducible exact belh _ (by assumption)
              | with_reducible apply below_drew
              | with_reducible apply below_drewN
              | with_reducible apply balB
              | with_reducible refine bsetB _ _ ?_ (Nat.le_refl _)
              | with_reducible refine bsetB _ _ ?_ (Below.size (by first | exact bel6 | exact belh _ (by assumption)))
              | fail)))
          (first
            | (go_at_call 10; refine (Step8_lit ul uh la lo hi hy st wt x 2 true 2 _ HS.out).mono ?_; rintro e w6 ⟨rfl, b6⟩; have bel6 : Below wd.heap.size wd w6 := Below.trans (belh _ (by assumption)) (b6.mono (Below.size (belh _ (by assumption)))); (try (have hbA := (b6.block wd.heap.size (by simp)).trans (by first | exact heap_alloc_new wd (.cells #[.int .i64 0, .bool false] 25) | exact heap_alloc_new wd.drew (.cells #[.int .i64 0, .bool false] 25) | exact heap_alloc_new (wd.drewN _) (.cells #[.int .i64 0, .bool false] 25)); obtain ⟨p0, p1⟩ := of2 hbA; obtain ⟨f0, f1⟩ := thaw2 hbA)))
            | fail)
        · have hbx := heap_alloc_new w6 (.cells #[.int .i64 2, .bool true] 25)
          have bel7 := balB bel6 (.cells #[.int .i64 2, .bool true] 25)
          generalize w6.alloc (.cells #[.int .i64 2, .bool true] 25) = w7 at *
          generalize w6.heap.size = g7 at *
          (try simp only [Exit.then])
          have hl7 := keepB bel7 hst3.out.1
          have ha7 := keepB bel7 hst3.out.2.1
          have hb7 := hst3.out.2.2.trans (bel7.mono hsz)
          have hst8 : Hid ((put2 w7 g1 (.int .i64 2) (.bool true)).heap[w.heap.size]? = some (.cells #[.bool ul, .bool uh, .bool la, .int .i64 lo, .int .i64 hi, .int .i64 hy] 23 (0, 0)) ∧ (put2 w7 g1 (.int .i64 2) (.bool true)).heap[g1]? = some (.cells #[.int .i64 2, .bool true] 25 (0, 0)) ∧ Below w.heap.size w (put2 w7 g1 (.int .i64 2) (.bool true))) := Lib.hid ⟨(put2_other _ _ hne).trans hl7, put2_heap ha7 _ _, put2_below hb7 hlt1 _ _⟩
          obtain ⟨u0, u1⟩ := of2 hbx
          obtain ⟨t0, t1⟩ := of2 ha7
          obtain ⟨f0, f1⟩ := thaw2 ha7
          clear HK belh hbx bel7 hl7 ha7 hb7 hst3
          go_wp2
          go_roundw
          case rel => exact ⟨k + 1, lw', false, 2, true, by omega, rfl, rfl, by go_num, HA, hst8⟩
          case measure => simp [intOf]; omega
        · have hbx := put2_heap hbA (.int .i64 2) (.bool true)
          have bel7 := put2_below bel6 (Nat.le_refl _) (.int .i64 2) (.bool true)
          show Exit.then _ _ _ _ (put2 w6 wd.heap.size (.int .i64 2) (.bool true))
          generalize put2 w6 wd.heap.size (.int .i64 2) (.bool true) = w7 at *
          (try simp only [Exit.then])
          have hl7 := keepB bel7 hst3.out.1
          have ha7 := keepB bel7 hst3.out.2.1
          have hb7 := hst3.out.2.2.trans (bel7.mono hsz)
          have hst8 : Hid ((put2 w7 g1 (.int .i64 2) (.bool true)).heap[w.heap.size]? = some (.cells #[.bool ul, .bool uh, .bool la, .int .i64 lo, .int .i64 hi, .int .i64 hy] 23 (0, 0)) ∧ (put2 w7 g1 (.int .i64 2) (.bool true)).heap[g1]? = some (.cells #[.int .i64 2, .bool true] 25 (0, 0)) ∧ Below w.heap.size w (put2 w7 g1 (.int .i64 2) (.bool true))) := Lib.hid ⟨(put2_other _ _ hne).trans hl7, put2_heap ha7 _ _, put2_below hb7 hlt1 _ _⟩
          obtain ⟨u0, u1⟩ := of2 hbx
          obtain ⟨t0, t1⟩ := of2 ha7
          obtain ⟨f0, f1⟩ := thaw2 ha7
          clear HK belh hbx bel7 hl7 ha7 hb7 hst3
          go_wp2
          go_roundw
          case rel => exact ⟨k + 1, lw', false, 2, true, by omega, rfl, rfl, by go_num, HA, hst8⟩
          case measure => simp [intOf]; omega
      · have HS := Lib.hid hs
        have HA := Lib.hid ha
        clear hs ha HR HLW HHG
        have HK : Hid (∀ w' : World, Below wd.heap.size wd w' → (Below wd.heap.size wd w' ∧ (w'.cell? ⟨w.heap.size, 0, none⟩ = some (.bool ul) ∧ w'.cell? ⟨w.heap.size, 1, none⟩ = some (.bool uh) ∧ w'.cell? ⟨w.heap.size, 2, none⟩ = some (.bool la) ∧ w'.cell? ⟨w.heap.size, 3, none⟩ = some (.int .i64 lo) ∧ w'.cell? ⟨w.heap.size, 4, none⟩ = some (.int .i64 hi) ∧ w'.cell? ⟨w.heap.size, 5, none⟩ = some (.int .i64 hy)) ∧ (w'.cell? ⟨g1, 0, none⟩ = some (.int .i64 st) ∧ w'.cell? ⟨g1, 1, none⟩ = some (.bool wt)) ∧ w'.cell? ⟨b, o + k, none⟩ = some (.int .i64 x))) := Lib.hid fun w' hw => ⟨hw, of6 (keepB hw (hst3.out.1)), of2 (keepB hw (hst3.out.2.1)), cellB hw (hb3) (hc3)⟩
        have belh : ∀ w' : World, (Below wd.heap.size wd w' ∧ (w'.cell? ⟨w.heap.size, 0, none⟩ = some (.bool ul) ∧ w'.cell? ⟨w.heap.size, 1, none⟩ = some (.bool uh) ∧ w'.cell? ⟨w.heap.size, 2, none⟩ = some (.bool la) ∧ w'.cell? ⟨w.heap.size, 3, none⟩ = some (.int .i64 lo) ∧ w'.cell? ⟨w.heap.size, 4, none⟩ = some (.int .i64 hi) ∧ w'.cell? ⟨w.heap.size, 5, none⟩ = some (.int .i64 hy)) ∧ (w'.cell? ⟨g1, 0, none⟩ = some (.int .i64 st) ∧ w'.cell? ⟨g1, 1, none⟩ = some (.bool wt)) ∧ w'.cell? ⟨b, o + k, none⟩ = some (.int .i64 x)) → Below wd.heap.size wd w' := fun w' h => h.1
        go_wp2
        go_region_held3 (fun w' => Below wd.heap.size wd w' ∧ (w'.cell? ⟨w.heap.size, 0, none⟩ = some (.bool ul) ∧ w'.cell? ⟨w.heap.size, 1, none⟩ = some (.bool uh) ∧ w'.cell? ⟨w.heap.size, 2, none⟩ = some (.bool la) ∧ w'.cell? ⟨w.heap.size, 3, none⟩ = some (.int .i64 lo) ∧ w'.cell? ⟨w.heap.size, 4, none⟩ = some (.int .i64 hi) ∧ w'.cell? ⟨w.heap.size, 5, none⟩ = some (.int .i64 hy)) ∧ (w'.cell? ⟨g1, 0, none⟩ = some (.int .i64 st) ∧ w'.cell? ⟨g1, 1, none⟩ = some (.bool wt)) ∧ w'.cell? ⟨b, o + k, none⟩ = some (.int .i64 x))
          ((refine HK.out _ ?_
            repeat' (first
              | with_reducible exact Below.refl _ _
              | with_reducible exact bel6
              | with_reducible exact belh _ (by assumption)
              | with_reducible apply below_drew
              | with_reducible apply below_drewN
              | with_reducible apply balB
              | with_reducible refine bsetB _ _ ?_ (Nat.le_refl _)
              | with_reducible refine bsetB _ _ ?_ (Below.size (by first | exact bel6 | exact belh _ (by assumption)))
              | fail)))
          (first
            | (go_at_call 10; refine (Step8_lit ul uh la lo hi hy st wt x 0 wt 3 _ HS.out).mono ?_; rintro e w6 ⟨rfl, b6⟩; have bel6 : Below wd.heap.size wd w6 := Below.trans (belh _ (by assumption)) (b6.mono (Below.size (belh _ (by assumption)))); (try (have hbA := (b6.block wd.heap.size (by simp)).trans (by first | exact heap_alloc_new wd (.cells #[.int .i64 0, .bool false] 25) | exact heap_alloc_new wd.drew (.cells #[.int .i64 0, .bool false] 25) | exact heap_alloc_new (wd.drewN _) (.cells #[.int .i64 0, .bool false] 25)); obtain ⟨p0, p1⟩ := of2 hbA; obtain ⟨f0, f1⟩ := thaw2 hbA)))
            | fail)
        · have hbx := heap_alloc_new w6 (.cells #[.int .i64 0, .bool wt] 25)
          have bel7 := balB bel6 (.cells #[.int .i64 0, .bool wt] 25)
          generalize w6.alloc (.cells #[.int .i64 0, .bool wt] 25) = w7 at *
          generalize w6.heap.size = g7 at *
          (try simp only [Exit.then])
          have hl7 := keepB bel7 hst3.out.1
          have ha7 := keepB bel7 hst3.out.2.1
          have hb7 := hst3.out.2.2.trans (bel7.mono hsz)
          have hst8 : Hid ((put2 w7 g1 (.int .i64 0) (.bool wt)).heap[w.heap.size]? = some (.cells #[.bool ul, .bool uh, .bool la, .int .i64 lo, .int .i64 hi, .int .i64 hy] 23 (0, 0)) ∧ (put2 w7 g1 (.int .i64 0) (.bool wt)).heap[g1]? = some (.cells #[.int .i64 0, .bool wt] 25 (0, 0)) ∧ Below w.heap.size w (put2 w7 g1 (.int .i64 0) (.bool wt))) := Lib.hid ⟨(put2_other _ _ hne).trans hl7, put2_heap ha7 _ _, put2_below hb7 hlt1 _ _⟩
          obtain ⟨u0, u1⟩ := of2 hbx
          obtain ⟨t0, t1⟩ := of2 ha7
          obtain ⟨f0, f1⟩ := thaw2 ha7
          clear HK belh hbx bel7 hl7 ha7 hb7 hst3
          go_wp2
          go_roundw
          case rel => exact ⟨k + 1, lw', hg', 0, wt, by omega, rfl, rfl, by go_num, HA, hst8⟩
          case measure => simp [intOf]; omega
        · have hbx := put2_heap hbA (.int .i64 0) (.bool wt)
          have bel7 := put2_below bel6 (Nat.le_refl _) (.int .i64 0) (.bool wt)
          show Exit.then _ _ _ _ (put2 w6 wd.heap.size (.int .i64 0) (.bool wt))
          generalize put2 w6 wd.heap.size (.int .i64 0) (.bool wt) = w7 at *
          (try simp only [Exit.then])
          have hl7 := keepB bel7 hst3.out.1
          have ha7 := keepB bel7 hst3.out.2.1
          have hb7 := hst3.out.2.2.trans (bel7.mono hsz)
          have hst8 : Hid ((put2 w7 g1 (.int .i64 0) (.bool wt)).heap[w.heap.size]? = some (.cells #[.bool ul, .bool uh, .bool la, .int .i64 lo, .int .i64 hi, .int .i64 hy] 23 (0, 0)) ∧ (put2 w7 g1 (.int .i64 0) (.bool wt)).heap[g1]? = some (.cells #[.int .i64 0, .bool wt] 25 (0, 0)) ∧ Below w.heap.size w (put2 w7 g1 (.int .i64 0) (.bool wt))) := Lib.hid ⟨(put2_other _ _ hne).trans hl7, put2_heap ha7 _ _, put2_below hb7 hlt1 _ _⟩
          obtain ⟨u0, u1⟩ := of2 hbx
          obtain ⟨t0, t1⟩ := of2 ha7
          obtain ⟨f0, f1⟩ := thaw2 ha7
          clear HK belh hbx bel7 hl7 ha7 hb7 hst3
          go_wp2
          go_roundw
          case rel => exact ⟨k + 1, lw', hg', 0, wt, by omega, rfl, rfl, by go_num, HA, hst8⟩
          case measure => simp [intOf]; omega
    · obtain rfl : k = n := by omega
      have bel := hst.out.2.2
      go_wp2_with fail
      refine (works8_yes _).mono ?_
      rintro e w3 ⟨rfl, b3⟩
      go_wp2
      go_ret
      exact ⟨rfl, bel.trans (b3.mono bel.size)⟩
end Go.Proofs.Ytlbblddpfijciaa
