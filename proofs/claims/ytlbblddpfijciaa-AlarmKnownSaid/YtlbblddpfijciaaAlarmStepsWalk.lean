/-
  The walk of AlarmSteps.
-/
import Derived.Test.YtlbblddpfijciaaAlWorks
namespace Go.Proofs.Ytlbblddpfijciaa
open Go.RowKit
set_option linter.unusedVariables false

set_option maxHeartbeats 2000000 in
theorem steps8_any (ul uh la : Bool) (lo hi hy : Int) (st : Int) (wt : Bool) (v : Int) (w : World) :
    Calls Try.prog 3 #[.agg #[.bool ul, .bool uh, .bool la, .int .i64 lo, .int .i64 hi, .int .i64 hy], .agg #[.int .i64 st, .bool wt], .int .i64 v] w fun e w' => e = .returned (.bool true) ∧ Below w.heap.size w w' := by
  have HV : Hid (∀ W, Calls Try.prog 10 #[.agg #[.bool ul, .bool uh, .bool la, .int .i64 lo, .int .i64 hi, .int .i64 hy], .agg #[.int .i64 st, .bool wt], .int .i64 v] W fun e w' => e = .returned (stepR (stepA ⟨ul, uh, la, lo, hi, hy⟩ ⟨st, wt⟩ v)) ∧ Below W.heap.size W w') := Lib.hid fun W => Step8_any ul uh la lo hi hy st wt v W
  have HR : Hid (∀ W, Calls Try.prog 11 #[.agg #[.bool ul, .bool uh, .bool la, .int .i64 lo, .int .i64 hi, .int .i64 hy], .agg #[.int .i64 st, .bool wt], .int .i64 v] W fun e w' => e = .returned (stepR (stepA ⟨ul, uh, la, lo, hi, hy⟩ ⟨st, wt⟩ v)) ∧ Below W.heap.size W w') := Lib.hid fun W => refStep8_any ul uh la lo hi hy st wt v W
  have HA : Hid (∀ W, Calls Try.prog 12 #[.agg #[.int .i64 st, .bool wt]] W fun e w' => e = .returned (ackR (ackA ⟨st, wt⟩)) ∧ Below W.heap.size W w') := Lib.hid fun W => Ack8_any st wt W
  have HB : Hid (∀ W, Calls Try.prog 13 #[.agg #[.int .i64 st, .bool wt]] W fun e w' => e = .returned (ackR (ackA ⟨st, wt⟩)) ∧ Below W.heap.size W w') := Lib.hid fun W => refAck8_any st wt W
  have HC : Hid (∀ W, Calls Try.prog 14 #[.agg #[.bool ul, .bool uh, .bool la, .int .i64 lo, .int .i64 hi, .int .i64 hy]] W fun e w' => e = .returned (.int .i64 (chkL ⟨ul, uh, la, lo, hi, hy⟩)) ∧ Below W.heap.size W w') := Lib.hid fun W => Check8_any ul uh la lo hi hy W
  have HD : Hid (∀ W, Calls Try.prog 15 #[.agg #[.bool ul, .bool uh, .bool la, .int .i64 lo, .int .i64 hi, .int .i64 hy]] W fun e w' => e = .returned (.int .i64 (chkL ⟨ul, uh, la, lo, hi, hy⟩)) ∧ Below W.heap.size W w') := Lib.hid fun W => refCheck8_any ul uh la lo hi hy W
  obtain ⟨⟨⟨s1, t1⟩, n1⟩, h1⟩ : ∃ r, stepA ⟨ul, uh, la, lo, hi, hy⟩ ⟨st, wt⟩ v = r := ⟨_, rfl⟩
  obtain ⟨⟨⟨s2, t2⟩, n2⟩, h2⟩ : ∃ r, ackA ⟨st, wt⟩ = r := ⟨_, rfl⟩
  obtain ⟨ck, h3⟩ : ∃ c, chkL ⟨ul, uh, la, lo, hi, hy⟩ = c := ⟨_, rfl⟩
  rw [h1] at HV HR
  rw [h2] at HA HB
  rw [h3] at HC HD
  clear h1 h2 h3
  simp only [stepR, ackR, almV] at HV HR HA HB
  have l0 := two_fst w (.cells #[.bool ul, .bool uh, .bool la, .int .i64 lo, .int .i64 hi, .int .i64 hy] 23) (.cells #[.int .i64 st, .bool wt] 25)
  have a0 := heap_alloc_two w (.cells #[.bool ul, .bool uh, .bool la, .int .i64 lo, .int .i64 hi, .int .i64 hy] 23) (.cells #[.int .i64 st, .bool wt] 25)
  have bel0 := bel_two w (.cells #[.bool ul, .bool uh, .bool la, .int .i64 lo, .int .i64 hi, .int .i64 hy] 23) (.cells #[.int .i64 st, .bool wt] 25)
  go_enter Try.func3, Try.ntmps3
  go_wp2_with fail
  refine (HV.out _).mono ?_
  rintro e w1 ⟨rfl, b1⟩
  have k1 := balB b1 (.cells #[.int .i64 s1, .bool t1] 25)
  have l1 := keepB k1 l0
  have a1 := keepB k1 a0
  have x1 := heap_alloc_new w1 (.cells #[.int .i64 s1, .bool t1] 25)
  have bel1 := bel0.trans (k1.mono bel0.size)
  clear b1 k1 bel0 l0 a0
  obtain ⟨c1, c2, c3, c4, c5, c6⟩ := of6 l1
  obtain ⟨d1, d2⟩ := of2 a1
  go_wp2_with fail
  refine (HR.out _).mono ?_
  rintro e w2 ⟨rfl, b2⟩
  clear c1 c2 c3 c4 c5 c6 d1 d2
  have k2 := balB b2 (.cells #[.int .i64 s1, .bool t1] 25)
  have l2 := keepB k2 l1
  have a2 := keepB k2 a1
  have x2 := keepB k2 x1
  have y2 := heap_alloc_new w2 (.cells #[.int .i64 s1, .bool t1] 25)
  have bel2 := bel1.trans (k2.mono bel1.size)
  clear b2 k2 bel1 l1 a1 x1
  obtain ⟨c1, c2, c3, c4, c5, c6⟩ := of6 l2
  obtain ⟨d1, d2⟩ := of2 a2
  go_wp2_with fail
  refine (HA.out _).mono ?_
  rintro e w3 ⟨rfl, b3⟩
  clear c1 c2 c3 c4 c5 c6 d1 d2
  have k3 := balB b3 (.cells #[.int .i64 s2, .bool t2] 25)
  have l3 := keepB k3 l2
  have a3 := keepB k3 a2
  have x3 := keepB k3 x2
  have y3 := keepB k3 y2
  have p3 := heap_alloc_new w3 (.cells #[.int .i64 s2, .bool t2] 25)
  have bel3 := bel2.trans (k3.mono bel2.size)
  clear b3 k3 bel2 l2 a2 x2 y2
  obtain ⟨c1, c2, c3, c4, c5, c6⟩ := of6 l3
  obtain ⟨d1, d2⟩ := of2 a3
  go_wp2_with fail
  refine (HB.out _).mono ?_
  rintro e w4 ⟨rfl, b4⟩
  clear c1 c2 c3 c4 c5 c6 d1 d2
  have k4 := balB b4 (.cells #[.int .i64 s2, .bool t2] 25)
  have l4 := keepB k4 l3
  have a4 := keepB k4 a3
  have x4 := keepB k4 x3
  have y4 := keepB k4 y3
  have p4 := keepB k4 p3
  have q4 := heap_alloc_new w4 (.cells #[.int .i64 s2, .bool t2] 25)
  have bel4 := bel3.trans (k4.mono bel3.size)
  clear b4 k4 bel3 l3 a3 x3 y3 p3
  go_wp2
  generalize w4.alloc (.cells #[.int .i64 s2, .bool t2] 25) = wc at *
  have HK : Hid (∀ w' : World, Below wc.heap.size wc w' → Below wc.heap.size wc w' ∧ (w'.cell? ⟨w.heap.size, 0, none⟩ = some (.bool ul) ∧ w'.cell? ⟨w.heap.size, 1, none⟩ = some (.bool uh) ∧ w'.cell? ⟨w.heap.size, 2, none⟩ = some (.bool la) ∧ w'.cell? ⟨w.heap.size, 3, none⟩ = some (.int .i64 lo) ∧ w'.cell? ⟨w.heap.size, 4, none⟩ = some (.int .i64 hi) ∧ w'.cell? ⟨w.heap.size, 5, none⟩ = some (.int .i64 hy)) ∧ (w'.cell? ⟨w1.heap.size, 0, none⟩ = some (.int .i64 s1) ∧ w'.cell? ⟨w1.heap.size, 1, none⟩ = some (.bool t1)) ∧ (w'.cell? ⟨w2.heap.size, 0, none⟩ = some (.int .i64 s1) ∧ w'.cell? ⟨w2.heap.size, 1, none⟩ = some (.bool t1)) ∧ (w'.cell? ⟨w3.heap.size, 0, none⟩ = some (.int .i64 s2) ∧ w'.cell? ⟨w3.heap.size, 1, none⟩ = some (.bool t2)) ∧ (w'.cell? ⟨w4.heap.size, 0, none⟩ = some (.int .i64 s2) ∧ w'.cell? ⟨w4.heap.size, 1, none⟩ = some (.bool t2))) := Lib.hid fun w' hw => ⟨hw, of6 (keepB hw l4), of2 (keepB hw x4), of2 (keepB hw y4), of2 (keepB hw p4), of2 (keepB hw q4)⟩
  have belh : ∀ w' : World, (Below wc.heap.size wc w' ∧ (w'.cell? ⟨w.heap.size, 0, none⟩ = some (.bool ul) ∧ w'.cell? ⟨w.heap.size, 1, none⟩ = some (.bool uh) ∧ w'.cell? ⟨w.heap.size, 2, none⟩ = some (.bool la) ∧ w'.cell? ⟨w.heap.size, 3, none⟩ = some (.int .i64 lo) ∧ w'.cell? ⟨w.heap.size, 4, none⟩ = some (.int .i64 hi) ∧ w'.cell? ⟨w.heap.size, 5, none⟩ = some (.int .i64 hy)) ∧ (w'.cell? ⟨w1.heap.size, 0, none⟩ = some (.int .i64 s1) ∧ w'.cell? ⟨w1.heap.size, 1, none⟩ = some (.bool t1)) ∧ (w'.cell? ⟨w2.heap.size, 0, none⟩ = some (.int .i64 s1) ∧ w'.cell? ⟨w2.heap.size, 1, none⟩ = some (.bool t1)) ∧ (w'.cell? ⟨w3.heap.size, 0, none⟩ = some (.int .i64 s2) ∧ w'.cell? ⟨w3.heap.size, 1, none⟩ = some (.bool t2)) ∧ (w'.cell? ⟨w4.heap.size, 0, none⟩ = some (.int .i64 s2) ∧ w'.cell? ⟨w4.heap.size, 1, none⟩ = some (.bool t2))) → Below wc.heap.size wc w' := fun w' h => h.1
  clear l4 a4 x4 y4 p4 q4
  go_region_held3 (fun w' => Below wc.heap.size wc w' ∧ (w'.cell? ⟨w.heap.size, 0, none⟩ = some (.bool ul) ∧ w'.cell? ⟨w.heap.size, 1, none⟩ = some (.bool uh) ∧ w'.cell? ⟨w.heap.size, 2, none⟩ = some (.bool la) ∧ w'.cell? ⟨w.heap.size, 3, none⟩ = some (.int .i64 lo) ∧ w'.cell? ⟨w.heap.size, 4, none⟩ = some (.int .i64 hi) ∧ w'.cell? ⟨w.heap.size, 5, none⟩ = some (.int .i64 hy)) ∧ (w'.cell? ⟨w1.heap.size, 0, none⟩ = some (.int .i64 s1) ∧ w'.cell? ⟨w1.heap.size, 1, none⟩ = some (.bool t1)) ∧ (w'.cell? ⟨w2.heap.size, 0, none⟩ = some (.int .i64 s1) ∧ w'.cell? ⟨w2.heap.size, 1, none⟩ = some (.bool t1)) ∧ (w'.cell? ⟨w3.heap.size, 0, none⟩ = some (.int .i64 s2) ∧ w'.cell? ⟨w3.heap.size, 1, none⟩ = some (.bool t2)) ∧ (w'.cell? ⟨w4.heap.size, 0, none⟩ = some (.int .i64 s2) ∧ w'.cell? ⟨w4.heap.size, 1, none⟩ = some (.bool t2)))
    ((refine HK.out _ ?_
      repeat' (first
        | with_reducible exact Below.refl _ _
        | with_reducible exact bel8
        | with_reducible exact bel7
        | with_reducible exact bel6
        | with_reducible exact belh _ (by assumption)
        | with_reducible apply below_drew
        | with_reducible apply below_drewN
        | fail)))
    (first
      | (go_at_call 14; refine (HC.out _).mono ?_; rintro e w5 ⟨rfl, b5⟩; have bel6 : Below wc.heap.size wc w5 := Below.trans (belh _ (by assumption)) (b5.mono (Below.size (belh _ (by assumption)))))
      | (go_at_call 15; refine (HD.out _).mono ?_; rintro e w5 ⟨rfl, b5⟩; have bel7 : Below wc.heap.size wc w5 := Below.trans (belh _ (by assumption)) (b5.mono (Below.size (belh _ (by assumption)))))
      | (go_at_call 16; refine (works8_yes _).mono ?_; rintro e w8 ⟨rfl, b8⟩; have bel8 : Below wc.heap.size wc w8 := Below.trans (belh _ (by assumption)) (b8.mono (Below.size (belh _ (by assumption)))))
      | fail)
  all_goals
    go_wp2
    go_ret
    exact ⟨rfl, bel4.trans (bel8.mono bel4.size)⟩
theorem walk_AlarmSteps (ul uh la : Bool) (lo hi hy : Int) (st : Int) (wt : Bool) (v : Int) (w : World) (wl : Lim.Ok ⟨ul, uh, la, lo, hi, hy⟩) (wa : Alm.Ok ⟨st, wt⟩) (wv : (Lit.int .i64 v).wf = true) :
    Calls Try.prog 3 #[.agg #[.bool ul, .bool uh, .bool la, .int .i64 lo, .int .i64 hi, .int .i64 hy], .agg #[.int .i64 st, .bool wt], .int .i64 v] w fun e w' => e = .returned (.bool true) ∧ Below w.heap.size w w' := steps8_any ul uh la lo hi hy st wt v w
end Go.Proofs.Ytlbblddpfijciaa
