/-
  The walk of AlarmRuns.
-/
import Derived.Test.YtlbblddpfijciaaAlInside
import Derived.Test.YtlbblddpfijciaaAlLatch
import Derived.Test.YtlbblddpfijciaaPlainL
namespace Go.Proofs.Ytlbblddpfijciaa
open Go.RowKit
set_option linter.unusedVariables false

/-- A store into the second of three boxes. -/
theorem Box3.put1 {w0 w : World} {a c : Obj} {v0 v1 : Value} {t : TypeId} (h : Box3 w0 a (.cells #[v0, v1] t (0, 0)) c w) (x y : Value) : Box3 w0 a (.cells #[x, y] t (0, 0)) c (put2 w (w0.heap.size + 1) x y) := by
  obtain ⟨h1, h2, h3, h5, h6⟩ := h
  refine ⟨(put2_other _ _ (by omega)).trans h1, put2_heap h2 _ _, (put2_other _ _ (by omega)).trans h3, by rw [put2_size]; exact h5, put2_below h6 (by omega) _ _⟩
set_option maxHeartbeats 4000000 in
set_option maxRecDepth 100000 in
theorem walk_AlarmRuns (ul uh la : Bool) (lo hi hy : Int) (A : Option Addr) (n c : Nat) (xs : List Int) (A' : Option Addr) (m c' : Nat) (ys : List Bool) (w : World) (wl : Lim.Ok ⟨ul, uh, la, lo, hi, hy⟩) (hr : Row .i64 w w.heap.size A xs) (hn : xs.length = n) (hc : n ≤ c) (hb : c ≤ 140737488351232)
    (hr' : L.Row () w w.heap.size A' ys) (hm : ys.length = m) (hc' : m ≤ c') (hb' : c' ≤ 140737488351232) :
    Calls Try.prog 4 #[.agg #[.bool ul, .bool uh, .bool la, .int .i64 lo, .int .i64 hi, .int .i64 hy], .slice A n c, .slice A' m c'] w fun e w' => e = .returned (.bool true) ∧ Below w.heap.size w w' := by
  have bel0 := bel_alloc w (.cells #[.bool ul, .bool uh, .bool la, .int .i64 lo, .int .i64 hi, .int .i64 hy] 23)
  have b3 := Box3.new w (.cells #[.bool ul, .bool uh, .bool la, .int .i64 lo, .int .i64 hi, .int .i64 hy] 23) (.cells #[.int .i64 0, .bool false] 25) (.cells #[.int .i64 0, .bool false] 25)
  by_cases hbig : (65536 : Int) < n
  · go_enter Try.func4, Try.ntmps4
    go_wp2_with fail
    refine (works8_yes _).mono ?_
    rintro e w1 ⟨rfl, b1⟩
    go_wp2
    go_ret
    exact ⟨rfl, bel0.trans (b1.mono bel0.size)⟩
  have hn' := Lib.hid hn
  have hm' := Lib.hid hm
  clear hn hm hb hb' wl bel0
  go_enter Try.func4, Try.ntmps4
  go_wp2
  generalize ((w.alloc (.cells #[.bool ul, .bool uh, .bool la, .int .i64 lo, .int .i64 hi, .int .i64 hy] 23)).alloc (.cells #[.int .i64 0, .bool false] 25)).alloc (.cells #[.int .i64 0, .bool false] 25) = w0 at *
  go_loopw [9] (fun i wr => ∃ (k : Nat) (st : Int) (wt : Bool), k ≤ n ∧ i = .int .i64 k ∧ Hid (Box3 w (.cells #[.bool ul, .bool uh, .bool la, .int .i64 lo, .int .i64 hi, .int .i64 hy] 23) (.cells #[.int .i64 st, .bool wt] 25) (.cells #[.int .i64 st, .bool wt] 25) wr)) (fun i _ => n - (intOf i).toNat)
  case atStart => exact ⟨0, 0, false, by omega, rfl, Lib.hid b3⟩
  case round =>
    clear b3
    obtain ⟨k, st, wt, hk, rfl, hst⟩ := hrel
    by_cases hlt : k < n
    · obtain ⟨b, o, rfl, hb1, hc1⟩ := (hr.below hst.out.bel).at_ (i := k) (by have := hn'.out; omega)
      obtain ⟨x, hx⟩ : ∃ x, nth xs k = x := ⟨_, rfl⟩
      rw [hx] at hc1
      clear hx
      have hlt' : (k : Int) < n := by omega
      have h0 : (0 : Int) ≤ k := by omega
      have HV : Hid (∀ W, Calls Try.prog 10 #[.agg #[.bool ul, .bool uh, .bool la, .int .i64 lo, .int .i64 hi, .int .i64 hy], .agg #[.int .i64 st, .bool wt], .int .i64 x] W fun e w' => e = .returned (stepR (stepA ⟨ul, uh, la, lo, hi, hy⟩ ⟨st, wt⟩ x)) ∧ Below W.heap.size W w') := Lib.hid fun W => Step8_any ul uh la lo hi hy st wt x W
      have HR : Hid (∀ W, Calls Try.prog 11 #[.agg #[.bool ul, .bool uh, .bool la, .int .i64 lo, .int .i64 hi, .int .i64 hy], .agg #[.int .i64 st, .bool wt], .int .i64 x] W fun e w' => e = .returned (stepR (stepA ⟨ul, uh, la, lo, hi, hy⟩ ⟨st, wt⟩ x)) ∧ Below W.heap.size W w') := Lib.hid fun W => refStep8_any ul uh la lo hi hy st wt x W
      obtain ⟨⟨⟨s1, t1⟩, n1⟩, h1⟩ : ∃ r, stepA ⟨ul, uh, la, lo, hi, hy⟩ ⟨st, wt⟩ x = r := ⟨_, rfl⟩
      have HA : Hid (∀ W, Calls Try.prog 12 #[.agg #[.int .i64 s1, .bool t1]] W fun e w' => e = .returned (ackR (ackA ⟨s1, t1⟩)) ∧ Below W.heap.size W w') := Lib.hid fun W => Ack8_any s1 t1 W
      have HB : Hid (∀ W, Calls Try.prog 13 #[.agg #[.int .i64 s1, .bool t1]] W fun e w' => e = .returned (ackR (ackA ⟨s1, t1⟩)) ∧ Below W.heap.size W w') := Lib.hid fun W => refAck8_any s1 t1 W
      obtain ⟨⟨⟨s2, t2⟩, k2⟩, h2⟩ : ∃ r, ackA ⟨s1, t1⟩ = r := ⟨_, rfl⟩
      rw [h1] at HV HR
      rw [h2] at HA HB
      clear h1 h2
      simp only [stepR, ackR, almV] at HV HR HA HB
      have hsz := hst.out.2.2.2.1
      have hb2 : b < wr.heap.size := by omega
      have HK : Hid (∀ w' : World, Below wr.heap.size wr w' → (Below wr.heap.size wr w' ∧ (w'.cell? ⟨w.heap.size, 0, none⟩ = some (.bool ul) ∧ w'.cell? ⟨w.heap.size, 1, none⟩ = some (.bool uh) ∧ w'.cell? ⟨w.heap.size, 2, none⟩ = some (.bool la) ∧ w'.cell? ⟨w.heap.size, 3, none⟩ = some (.int .i64 lo) ∧ w'.cell? ⟨w.heap.size, 4, none⟩ = some (.int .i64 hi) ∧ w'.cell? ⟨w.heap.size, 5, none⟩ = some (.int .i64 hy)) ∧ (w'.cell? ⟨w.heap.size + 1, 0, none⟩ = some (.int .i64 st) ∧ w'.cell? ⟨w.heap.size + 1, 1, none⟩ = some (.bool wt)) ∧ (w'.cell? ⟨w.heap.size + 1 + 1, 0, none⟩ = some (.int .i64 st) ∧ w'.cell? ⟨w.heap.size + 1 + 1, 1, none⟩ = some (.bool wt)) ∧ w'.cell? ⟨b, o + k, none⟩ = some (.int .i64 x))) := Lib.hid fun w' hw => ⟨hw, of6 (keepB hw (hst.out.1)), of2 (keepB hw (hst.out.2.1)), of2 (keepB hw (hst.out.2.2.1)), cellB hw (hb2) (hc1)⟩
      have belh : ∀ w' : World, (Below wr.heap.size wr w' ∧ (w'.cell? ⟨w.heap.size, 0, none⟩ = some (.bool ul) ∧ w'.cell? ⟨w.heap.size, 1, none⟩ = some (.bool uh) ∧ w'.cell? ⟨w.heap.size, 2, none⟩ = some (.bool la) ∧ w'.cell? ⟨w.heap.size, 3, none⟩ = some (.int .i64 lo) ∧ w'.cell? ⟨w.heap.size, 4, none⟩ = some (.int .i64 hi) ∧ w'.cell? ⟨w.heap.size, 5, none⟩ = some (.int .i64 hy)) ∧ (w'.cell? ⟨w.heap.size + 1, 0, none⟩ = some (.int .i64 st) ∧ w'.cell? ⟨w.heap.size + 1, 1, none⟩ = some (.bool wt)) ∧ (w'.cell? ⟨w.heap.size + 1 + 1, 0, none⟩ = some (.int .i64 st) ∧ w'.cell? ⟨w.heap.size + 1 + 1, 1, none⟩ = some (.bool wt)) ∧ w'.cell? ⟨b, o + k, none⟩ = some (.int .i64 x)) → Below wr.heap.size wr w' := fun w' h => h.1
      go_upto_region 8 with fail
      go_cut [10, 11] from 22 to 87 (fun s q wx => ∃ g, s = .pointer (some ⟨g, 0, none⟩) ∧ q = .int .i64 n1 ∧ Hid (wx.heap[g]? = some (.cells #[.int .i64 s1, .bool t1] 25 (0, 0)) ∧ Below wr.heap.size wr wx ∧ wr.heap.size ≤ g))
      case first =>
        go_wp2
        go_region_held3 (fun w' => Below wr.heap.size wr w' ∧ (w'.cell? ⟨w.heap.size, 0, none⟩ = some (.bool ul) ∧ w'.cell? ⟨w.heap.size, 1, none⟩ = some (.bool uh) ∧ w'.cell? ⟨w.heap.size, 2, none⟩ = some (.bool la) ∧ w'.cell? ⟨w.heap.size, 3, none⟩ = some (.int .i64 lo) ∧ w'.cell? ⟨w.heap.size, 4, none⟩ = some (.int .i64 hi) ∧ w'.cell? ⟨w.heap.size, 5, none⟩ = some (.int .i64 hy)) ∧ (w'.cell? ⟨w.heap.size + 1, 0, none⟩ = some (.int .i64 st) ∧ w'.cell? ⟨w.heap.size + 1, 1, none⟩ = some (.bool wt)) ∧ (w'.cell? ⟨w.heap.size + 1 + 1, 0, none⟩ = some (.int .i64 st) ∧ w'.cell? ⟨w.heap.size + 1 + 1, 1, none⟩ = some (.bool wt)) ∧ w'.cell? ⟨b, o + k, none⟩ = some (.int .i64 x))
          ((refine HK.out _ ?_
            repeat' (first
              | with_reducible exact Below.refl _ _
              | with_reducible exact bel6
              | with_reducible exact belh _ (by assumption)
              | with_reducible apply below_drew
              | with_reducible apply below_drewN
              | with_reducible apply balB
              | with_reducible refine bsetB _ _ ?_ (Nat.le_refl _)
              | with_reducible refine bsetB _ _ ?_ (Below.size (by first | exact bel6 | exact belh _ (by assumption)))
              | fail)))
          (first
            | (go_at_call 10; refine (HV.out _).mono ?_; rintro e w6 ⟨rfl, b6⟩; have bel6 : Below wr.heap.size wr w6 := Below.trans (belh _ (by assumption)) (b6.mono (Below.size (belh _ (by assumption)))); (try (have hbA := (b6.block wr.heap.size (by simp)).trans (by first | exact heap_alloc_new wr (.cells #[.int .i64 0, .bool false] 25) | exact heap_alloc_new wr.drew (.cells #[.int .i64 0, .bool false] 25) | exact heap_alloc_new (wr.drewN _) (.cells #[.int .i64 0, .bool false] 25)); obtain ⟨p0, p1⟩ := of2 hbA; obtain ⟨f0, f1⟩ := thaw2 hbA)))
            | fail)
        · go_wp2
          go_meet
          exact ⟨w6.heap.size, rfl, rfl, Lib.hid ⟨heap_alloc_new _ _, balB bel6 _, bel6.size⟩⟩
        · go_wp2
          go_meet
          exact ⟨wr.heap.size, rfl, rfl, Lib.hid ⟨put2_heap hbA _ _, put2_below bel6 (Nat.le_refl _) _ _, Nat.le_refl _⟩⟩
      case rest =>
      obtain ⟨g7, rfl, rfl, hcx⟩ := hcut
      have hst2 : Hid (Box3 w (.cells #[.bool ul, .bool uh, .bool la, .int .i64 lo, .int .i64 hi, .int .i64 hy] 23) (.cells #[.int .i64 st, .bool wt] 25) (.cells #[.int .i64 st, .bool wt] 25) wc) := Lib.hid (hst.out.below hcx.out.2.1)
      have hx2 := hcx.out.1
      have hg7 : w.heap.size + 3 ≤ g7 := by have := hcx.out.2.2; omega
      have hc2 := cellB hcx.out.2.1 hb2 hc1
      have hsz2 := hst2.out.2.2.2.1
      have hb3 : b < wc.heap.size := by omega
      clear HK belh hst hc1 hb2 hsz hcx HV
      have HK : Hid (∀ w' : World, Below wc.heap.size wc w' → (Below wc.heap.size wc w' ∧ (w'.cell? ⟨w.heap.size, 0, none⟩ = some (.bool ul) ∧ w'.cell? ⟨w.heap.size, 1, none⟩ = some (.bool uh) ∧ w'.cell? ⟨w.heap.size, 2, none⟩ = some (.bool la) ∧ w'.cell? ⟨w.heap.size, 3, none⟩ = some (.int .i64 lo) ∧ w'.cell? ⟨w.heap.size, 4, none⟩ = some (.int .i64 hi) ∧ w'.cell? ⟨w.heap.size, 5, none⟩ = some (.int .i64 hy)) ∧ (w'.cell? ⟨w.heap.size + 1, 0, none⟩ = some (.int .i64 st) ∧ w'.cell? ⟨w.heap.size + 1, 1, none⟩ = some (.bool wt)) ∧ (w'.cell? ⟨w.heap.size + 1 + 1, 0, none⟩ = some (.int .i64 st) ∧ w'.cell? ⟨w.heap.size + 1 + 1, 1, none⟩ = some (.bool wt)) ∧ w'.cell? ⟨b, o + k, none⟩ = some (.int .i64 x))) := Lib.hid fun w' hw => ⟨hw, of6 (keepB hw (hst2.out.1)), of2 (keepB hw (hst2.out.2.1)), of2 (keepB hw (hst2.out.2.2.1)), cellB hw (hb3) (hc2)⟩
      have belh : ∀ w' : World, (Below wc.heap.size wc w' ∧ (w'.cell? ⟨w.heap.size, 0, none⟩ = some (.bool ul) ∧ w'.cell? ⟨w.heap.size, 1, none⟩ = some (.bool uh) ∧ w'.cell? ⟨w.heap.size, 2, none⟩ = some (.bool la) ∧ w'.cell? ⟨w.heap.size, 3, none⟩ = some (.int .i64 lo) ∧ w'.cell? ⟨w.heap.size, 4, none⟩ = some (.int .i64 hi) ∧ w'.cell? ⟨w.heap.size, 5, none⟩ = some (.int .i64 hy)) ∧ (w'.cell? ⟨w.heap.size + 1, 0, none⟩ = some (.int .i64 st) ∧ w'.cell? ⟨w.heap.size + 1, 1, none⟩ = some (.bool wt)) ∧ (w'.cell? ⟨w.heap.size + 1 + 1, 0, none⟩ = some (.int .i64 st) ∧ w'.cell? ⟨w.heap.size + 1 + 1, 1, none⟩ = some (.bool wt)) ∧ w'.cell? ⟨b, o + k, none⟩ = some (.int .i64 x)) → Below wc.heap.size wc w' := fun w' h => h.1
      go_upto_region 9 with fail
      go_cut [12, 13] from 22 to 87 (fun s q wx => ∃ g, s = .pointer (some ⟨g, 0, none⟩) ∧ q = .int .i64 n1 ∧ Hid (wx.heap[g]? = some (.cells #[.int .i64 s1, .bool t1] 25 (0, 0)) ∧ Below wc.heap.size wc wx ∧ wc.heap.size ≤ g))
      case first =>
        go_wp2
        go_region_held3 (fun w' => Below wc.heap.size wc w' ∧ (w'.cell? ⟨w.heap.size, 0, none⟩ = some (.bool ul) ∧ w'.cell? ⟨w.heap.size, 1, none⟩ = some (.bool uh) ∧ w'.cell? ⟨w.heap.size, 2, none⟩ = some (.bool la) ∧ w'.cell? ⟨w.heap.size, 3, none⟩ = some (.int .i64 lo) ∧ w'.cell? ⟨w.heap.size, 4, none⟩ = some (.int .i64 hi) ∧ w'.cell? ⟨w.heap.size, 5, none⟩ = some (.int .i64 hy)) ∧ (w'.cell? ⟨w.heap.size + 1, 0, none⟩ = some (.int .i64 st) ∧ w'.cell? ⟨w.heap.size + 1, 1, none⟩ = some (.bool wt)) ∧ (w'.cell? ⟨w.heap.size + 1 + 1, 0, none⟩ = some (.int .i64 st) ∧ w'.cell? ⟨w.heap.size + 1 + 1, 1, none⟩ = some (.bool wt)) ∧ w'.cell? ⟨b, o + k, none⟩ = some (.int .i64 x))
          ((refine HK.out _ ?_
            repeat' (first
              | with_reducible exact Below.refl _ _
              | with_reducible exact bel6
              | with_reducible exact belh _ (by assumption)
              | with_reducible apply below_drew
              | with_reducible apply below_drewN
              | with_reducible apply balB
              | with_reducible refine bsetB _ _ ?_ (Nat.le_refl _)
              | with_reducible refine bsetB _ _ ?_ (Below.size (by first | exact bel6 | exact belh _ (by assumption)))
              | fail)))
          (first
            | (go_at_call 11; refine (HR.out _).mono ?_; rintro e w6 ⟨rfl, b6⟩; have bel6 : Below wc.heap.size wc w6 := Below.trans (belh _ (by assumption)) (b6.mono (Below.size (belh _ (by assumption)))); (try (have hbA := (b6.block wc.heap.size (by simp)).trans (by first | exact heap_alloc_new wc (.cells #[.int .i64 0, .bool false] 25) | exact heap_alloc_new wc.drew (.cells #[.int .i64 0, .bool false] 25) | exact heap_alloc_new (wc.drewN _) (.cells #[.int .i64 0, .bool false] 25)); obtain ⟨p0, p1⟩ := of2 hbA; obtain ⟨f0, f1⟩ := thaw2 hbA)))
            | fail)
        · go_wp2
          go_meet
          exact ⟨w6.heap.size, rfl, rfl, Lib.hid ⟨heap_alloc_new _ _, balB bel6 _, bel6.size⟩⟩
        · go_wp2
          go_meet
          exact ⟨wc.heap.size, rfl, rfl, Lib.hid ⟨put2_heap hbA _ _, put2_below bel6 (Nat.le_refl _) _ _, Nat.le_refl _⟩⟩
      case rest =>
      obtain ⟨g8, rfl, rfl, hcx⟩ := hcut
      rename World => wd
      have hst3 : Hid (Box3 w (.cells #[.bool ul, .bool uh, .bool la, .int .i64 lo, .int .i64 hi, .int .i64 hy] 23) (.cells #[.int .i64 st, .bool wt] 25) (.cells #[.int .i64 st, .bool wt] 25) wd) := Lib.hid (hst2.out.below hcx.out.2.1)
      have hx3 := keepB hcx.out.2.1 hx2
      have hy3 := hcx.out.1
      have hg8 : w.heap.size + 3 ≤ g8 := by have := hcx.out.2.2; omega
      clear HK belh hst2 hc2 hb3 hsz2 hcx HR hx2
      obtain ⟨u0, u1⟩ := of2 hx3
      obtain ⟨y0, y1⟩ := of2 hy3
      obtain ⟨p0, p1⟩ := of2 hst3.out.2.1
      obtain ⟨q0, q1⟩ := of2 hst3.out.2.2.1
      obtain ⟨f0, f1⟩ := thaw2 hst3.out.2.1
      obtain ⟨f2, f3⟩ := thaw2 hst3.out.2.2.1
      go_upto_region 14 with fail
      show Code.wp _ _ _ _ (put2 (put2 wd (w.heap.size + 1) (.int .i64 s1) (.bool t1)) (w.heap.size + 1 + 1) (.int .i64 s1) (.bool t1))
      have hst4 : Hid (Box3 w (.cells #[.bool ul, .bool uh, .bool la, .int .i64 lo, .int .i64 hi, .int .i64 hy] 23) (.cells #[.int .i64 s1, .bool t1] 25) (.cells #[.int .i64 s1, .bool t1] 25) (put2 (put2 wd (w.heap.size + 1) (.int .i64 s1) (.bool t1)) (w.heap.size + 1 + 1) (.int .i64 s1) (.bool t1))) := Lib.hid ((hst3.out.put1 _ _).put _ _)
      clear hst3 hx3 hy3 hg7 hg8 u0 u1 y0 y1 p0 p1 q0 q1 f0 f1 f2 f3
      generalize put2 (put2 wd (w.heap.size + 1) (.int .i64 s1) (.bool t1)) (w.heap.size + 1 + 1) (.int .i64 s1) (.bool t1) = we at *
      by_cases ha : k < m
      · obtain ⟨b', o', rfl, hb1', hcA⟩ := (hr'.below hst4.out.bel).at_ (i := k) (by have := hm'.out; omega)
        obtain ⟨y, hy⟩ : ∃ y, L.nth ys k = y := ⟨_, rfl⟩
        rw [hy] at hcA
        clear hy
        have ha' : (k : Int) < m := by omega
        cases y with
        | false =>
          clear HA HB
          go_wp2
          go_roundw
          case rel => exact ⟨k + 1, s1, t1, by omega, by go_num, hst4⟩
          case measure => simp [intOf]; omega
        | true =>
          obtain ⟨p0, p1⟩ := of2 hst4.out.2.1
          go_wp2_with fail
          refine (HA.out _).mono ?_
          rintro e w5 ⟨rfl, b5⟩
          have k5 := balB b5 (.cells #[.int .i64 s2, .bool t2] 25)
          have hst5 : Hid (Box3 w (.cells #[.bool ul, .bool uh, .bool la, .int .i64 lo, .int .i64 hi, .int .i64 hy] 23) (.cells #[.int .i64 s1, .bool t1] 25) (.cells #[.int .i64 s1, .bool t1] 25) (w5.alloc (.cells #[.int .i64 s2, .bool t2] 25))) := Lib.hid (hst4.out.below k5)
          have x5 := heap_alloc_new w5 (.cells #[.int .i64 s2, .bool t2] 25)
          have hw5 : w.heap.size + 3 ≤ w5.heap.size := by have := hst4.out.2.2.2.1; have := b5.size; omega
          clear HA p0 p1 hcA b5 k5 hst4
          obtain ⟨q0, q1⟩ := of2 hst5.out.2.2.1
          go_wp2_with fail
          refine (HB.out _).mono ?_
          rintro e w7 ⟨rfl, b7⟩
          have hw7 : w.heap.size + 3 ≤ w7.heap.size := by have := hst5.out.2.2.2.1; have := b7.size; omega
          have k7 := balB b7 (.cells #[.int .i64 s2, .bool t2] 25)
          have hst7 : Hid (Box3 w (.cells #[.bool ul, .bool uh, .bool la, .int .i64 lo, .int .i64 hi, .int .i64 hy] 23) (.cells #[.int .i64 s1, .bool t1] 25) (.cells #[.int .i64 s1, .bool t1] 25) (w7.alloc (.cells #[.int .i64 s2, .bool t2] 25))) := Lib.hid (hst5.out.below k7)
          have x7 := keepB k7 x5
          have y7 := heap_alloc_new w7 (.cells #[.int .i64 s2, .bool t2] 25)
          clear HB q0 q1 b7 k7 hst5 x5
          go_upto_region 17 with fail
          generalize w7.alloc (.cells #[.int .i64 s2, .bool t2] 25) = w8 at *
          generalize w7.heap.size = g11 at *
          generalize w5.heap.size = g10 at *
          obtain ⟨u0, u1⟩ := of2 x7
          obtain ⟨y0, y1⟩ := of2 y7
          obtain ⟨p0, p1⟩ := of2 hst7.out.2.1
          obtain ⟨q0, q1⟩ := of2 hst7.out.2.2.1
          obtain ⟨f0, f1⟩ := thaw2 hst7.out.2.1
          obtain ⟨f2, f3⟩ := thaw2 hst7.out.2.2.1
          have hst8 : Hid (Box3 w (.cells #[.bool ul, .bool uh, .bool la, .int .i64 lo, .int .i64 hi, .int .i64 hy] 23) (.cells #[.int .i64 s2, .bool t2] 25) (.cells #[.int .i64 s2, .bool t2] 25) (put2 (put2 w8 (w.heap.size + 1) (.int .i64 s2) (.bool t2)) (w.heap.size + 1 + 1) (.int .i64 s2) (.bool t2))) := Lib.hid ((hst7.out.put1 _ _).put _ _)
          clear hst7 x7 y7
          go_wp2
          go_roundw
          case rel => exact ⟨k + 1, s2, t2, by omega, by go_num, hst8⟩
          case measure => simp [intOf]; omega
      · have ha' : ¬ (k : Int) < m := by omega
        have ha2 : decide ((k : Int) < m) = false := decide_eq_false ha'
        clear HA HB ha'
        go_wp2
        go_roundw
        case rel => exact ⟨k + 1, s1, t1, by omega, by go_num, hst4⟩
        case measure => simp [intOf]; omega
    · obtain rfl : k = n := by omega
      have bel := hst.out.bel
      go_wp2_with fail
      refine (works8_yes _).mono ?_
      rintro e w3 ⟨rfl, b3⟩
      go_wp2
      go_ret
      exact ⟨rfl, bel.trans (b3.mono bel.size)⟩
end Go.Proofs.Ytlbblddpfijciaa
