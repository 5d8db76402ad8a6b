/-
  The walk of RecordPuts.
-/
import Derived.Test.YtemjcgmoacnnfaaRcRefPut
import Derived.Deep.CutRange
import Derived.Deep.RegionHeld3
namespace Go.Proofs.Ytemjcgmoacnnfaa
open Go.RowKit
set_option linter.unusedVariables false

theorem bytRc_wf (r : Rc) (h : chkRc r = 0) : ∀ x ∈ bytRc r, (Lit.int .u8 x).wf = true := by
  have hk := betw_yes.1 (chk_kind h)
  have fk : (Lit.int .u8 r.k).wf = true := by
    have := wf_byte r.k.toNat (by omega)
    rwa [show ((r.k.toNat : Nat) : Int) = r.k by omega] at this
  intro x hx
  rw [bytRc_parts] at hx
  simp only [List.mem_append, List.mem_cons] at hx
  rcases hx with (hx | hx) | hx | hx | hx
  · exact hx ▸ fk
  · exact e8_wf _ _ hx
  · unfold tgL at hx
    cases ht : tgK r.k <;> rw [ht] at hx
    · cases hx
    · simp only [cond_true, List.mem_cons] at hx
      rcases hx with hx | hx
      · rw [hx]; exact wf_byte _ (by have := name_size (chk_name h ht); omega)
      · exact bys_wf _ _ hx
  · unfold idL at hx
    cases ht : idK r.k <;> rw [ht] at hx
    · cases hx
    · exact e8_wf _ _ hx
  · unfold vlL at hx
    cases ht : vlK r.k <;> rw [ht] at hx
    · cases hx
    · exact e8_wf _ _ hx
theorem putRc_wf (r : Rc) : ∀ x ∈ putRc r, (Lit.int .u8 x).wf = true := by
  unfold putRc
  split
  · rename_i h; exact bytRc_wf r h
  · simp
theorem putRc_len (r : Rc) (ok : Rc.Ok r) : (putRc r).length ≤ 34 := by
  unfold putRc
  split
  · rename_i h; exact (rc_back ok h).2.2.2
  · simp

set_option maxHeartbeats 4000000 in
theorem puts11_any (k t : Int) (g : ByteArray) (v i : Int) (w : World) (ok : Rc.Ok ⟨k, t, g, v, i⟩) :
    Calls Try.prog 3 #[.agg #[.int .i64 k, .int .i64 t, .string g, .int .i64 v, .int .i64 i]] w fun e w' => e = .returned (.bool true) ∧ Below w.heap.size w w' := by
  have hs : g.size ≤ maxLen := ok.1
  obtain ⟨E, hE⟩ : ∃ E, chkRc ⟨k, t, g, v, i⟩ = E := ⟨_, rfl⟩
  obtain ⟨L, hL⟩ : ∃ L, putRc ⟨k, t, g, v, i⟩ = L := ⟨_, rfl⟩
  have hwf := putRc_wf ⟨k, t, g, v, i⟩
  have hlen := putRc_len _ ok
  rw [hL] at hwf hlen
  have HE := Lib.hid hE
  have HL := Lib.hid hL
  have tE : (E == E) = true := by simp
  have HC1 : Hid (∀ w', Calls Try.prog 11 #[.agg #[.int .i64 k, .int .i64 t, .string g, .int .i64 v, .int .i64 i]] w' fun e w2 => e = .returned (.int .i64 E) ∧ Below w'.heap.size w' w2) := Lib.hid fun w' => by have := Check11_any k t g v i w' hs; rw [hE] at this; exact this
  have HC2 : Hid (∀ w', Calls Try.prog 12 #[.agg #[.int .i64 k, .int .i64 t, .string g, .int .i64 v, .int .i64 i]] w' fun e w2 => e = .returned (.int .i64 E) ∧ Below w'.heap.size w' w2) := Lib.hid fun w' => by have := refCheck11_any k t g v i w' hs; rw [hE] at this; exact this
  have HP1 : Hid (∀ w', Calls Try.prog 9 #[.agg #[.int .i64 k, .int .i64 t, .string g, .int .i64 v, .int .i64 i]] w' (GivesOwn w' L E)) := Lib.hid fun w' => by have := Put11_any k t g v i w' hs; rw [hE, hL] at this; exact this
  have HP2 : Hid (∀ w', Calls Try.prog 10 #[.agg #[.int .i64 k, .int .i64 t, .string g, .int .i64 v, .int .i64 i]] w' (GivesOwn w' L E)) := Lib.hid fun w' => by have := refPut11_any k t g v i w' hs; rw [hE, hL] at this; exact this
  obtain ⟨m, hm⟩ : ∃ m, L.length = m := ⟨_, rfl⟩
  have HM := Lib.hid hm
  clear hE hL ok
  have bx := Bx.new w (.cells #[.int .i64 k, .int .i64 t, .string g, .int .i64 v, .int .i64 i] 23)
  obtain ⟨c0, c1, c2, c3, c4⟩ := bx.five
  go_enter Try.func3, Try.ntmps3
  go_wp2_with fail
  refine (HP1.out _).mono ?_
  rintro e w1 ⟨v1, rfl, own1, b1⟩
  obtain ⟨A1, q1, rfl, row1, _, _⟩ := own1.row hwf
  rw [HM.out]
  have R1 := Lib.hid row1
  have bx1 := bx.below b1
  clear own1 row1 b1 bx c0 c1 c2 c3 c4
  obtain ⟨c0, c1, c2, c3, c4⟩ := bx1.five
  go_wp2_with fail
  refine (HP2.out _).mono ?_
  rintro e w2 ⟨v2, rfl, own2, b2⟩
  obtain ⟨A2, q2, rfl, row2, _, _⟩ := own2.row hwf
  rw [HM.out]
  have R2 := Lib.hid row2
  have R3 := Lib.hid ((R1.out.below b2).more b2.size)
  have bx2 := bx1.below b2
  clear own2 row2 b2 bx1 c0 c1 c2 c3 c4 R1
  have bel := bx2.2
  have hx := bx2.1
  have hgs := bel.size
  go_upto_region 1 with fail
  have HK : Hid (∀ w' : World, Below w2.heap.size w2 w' → (Below w2.heap.size w2 w' ∧ w'.cell? ⟨w.heap.size, 0, none⟩ = some (.int .i64 k) ∧ w'.cell? ⟨w.heap.size, 1, none⟩ = some (.int .i64 t) ∧ w'.cell? ⟨w.heap.size, 2, none⟩ = some (.string g) ∧ w'.cell? ⟨w.heap.size, 3, none⟩ = some (.int .i64 v) ∧ w'.cell? ⟨w.heap.size, 4, none⟩ = some (.int .i64 i))) := Lib.hid fun w' hw => ⟨hw, (bx2.below hw).five⟩
  have belh : ∀ w' : World, (Below w2.heap.size w2 w' ∧ w'.cell? ⟨w.heap.size, 0, none⟩ = some (.int .i64 k) ∧ w'.cell? ⟨w.heap.size, 1, none⟩ = some (.int .i64 t) ∧ w'.cell? ⟨w.heap.size, 2, none⟩ = some (.string g) ∧ w'.cell? ⟨w.heap.size, 3, none⟩ = some (.int .i64 v) ∧ w'.cell? ⟨w.heap.size, 4, none⟩ = some (.int .i64 i)) → Below w2.heap.size w2 w' := fun w' h => h.1
  clear hx bx2
  go_region_held3 (fun w' => Below w2.heap.size w2 w' ∧ w'.cell? ⟨w.heap.size, 0, none⟩ = some (.int .i64 k) ∧ w'.cell? ⟨w.heap.size, 1, none⟩ = some (.int .i64 t) ∧ w'.cell? ⟨w.heap.size, 2, none⟩ = some (.string g) ∧ w'.cell? ⟨w.heap.size, 3, none⟩ = some (.int .i64 v) ∧ w'.cell? ⟨w.heap.size, 4, none⟩ = some (.int .i64 i))
    ((refine HK.out _ ?_
      repeat' (first
        | with_reducible exact Below.refl _ _
        | with_reducible exact bel6
        | with_reducible exact belh _ (by assumption)
        | with_reducible apply below_drew
        | with_reducible apply below_drewN
        | fail)))
    (first
      | (go_at_call 11; refine (HC1.out _).mono ?_; rintro e w5 ⟨rfl, b5⟩; have bel6 : Below w2.heap.size w2 w5 := Below.trans (belh _ (by assumption)) (b5.mono (Below.size (belh _ (by assumption)))))
      | (go_at_call 12; refine (HC2.out _).mono ?_; rintro e w5 ⟨rfl, b5⟩; have bel6 : Below w2.heap.size w2 w5 := Below.trans (belh _ (by assumption)) (b5.mono (Below.size (belh _ (by assumption)))))
      | (go_at_call 13; refine (same_yes_u8 A1 A2 m q1 q2 L _ _ _ (R3.out.below (belh _ (by assumption))) (R2.out.below (belh _ (by assumption))) HM.out (by omega)).mono ?_; rintro e w5 ⟨rfl, m5, hm5⟩; have bel6 : Below w2.heap.size w2 w5 := by rw [hm5]; exact below_drewN (belh _ (by assumption)) m5)
      | fail)
  all_goals
    go_wp2
    go_ret
    refine ⟨rfl, bel.trans (Below.mono ?_ hgs)⟩
    repeat' (first | assumption | apply below_drew | apply below_drewN)
theorem walk_RecordPuts (r : Rc) (w : World) (hok : Rc.Ok r) : Calls Try.prog 3 #[rcV r] w fun e w' => e = .returned (.bool true) ∧ Below w.heap.size w w' := by
  obtain ⟨k, t, g, v, i⟩ := r
  exact puts11_any k t g v i w hok
end Go.Proofs.Ytemjcgmoacnnfaa
