/-
  The walk of FrameLines.
-/
import Derived.Test.YtmbjcmagadekpaaFrOpen2
import Derived.Test.YtmbjcmagadekpaaFrApart
namespace Go.Proofs.Ytmbjcmagadekpaa
open Go.RowKit
set_option linter.unusedVariables false

theorem rtuL_wf {u : Int} {l : List Int} (h : ∀ x ∈ l, (Lit.int .u8 x).wf = true) (hu : (Lit.int .u8 u).wf = true) : ∀ x ∈ rtuL u l, (Lit.int .u8 x).wf = true := by
  unfold rtuL
  split
  · exact sealed16_wf (fun x hx => (List.mem_cons.1 hx).elim (fun e => e ▸ hu) (h x))
  · simp
theorem ortL_wf {b : List Int} (h : ∀ x ∈ b, (Lit.int .u8 x).wf = true) : ∀ x ∈ ortL b, (Lit.int .u8 x).wf = true := by
  unfold ortL
  split
  · exact fun x hx => h x (List.mem_of_mem_take (List.mem_of_mem_drop hx))
  · simp
theorem rtuL_le (u : Int) (l : List Int) : (rtuL u l).length ≤ 256 := by
  unfold rtuL
  split
  · rename_i h
    unfold rtuE at h
    split at h
    · have := frChk_le h
      rw [sealed16_length, List.length_cons]; omega
    · cases h
  · simp
theorem ortL_le (b : List Int) : (ortL b).length ≤ 256 := by
  unfold ortL
  split
  · rename_i h
    have : b.length ≤ 256 := by
      unfold ortE at h
      split at h
      · cases h
      · split at h
        · cases h
        · omega
    rw [List.length_drop, List.length_take]; omega
  · simp

set_option maxHeartbeats 2000000 in
theorem walk_FrameLines (u : Int) (a1 : Option Addr) (l1 c1 : Nat) (x1 : List Int) (w : World) (wu : (Lit.int .u8 u).wf = true) (w1 : Row .u8 w w.heap.size a1 x1) (n1 : x1.length = l1) (s1 : l1 ≤ c1) (m1 : c1 ≤ 140737488351232) :
    Calls Try.prog 7 #[.int .u8 u, .slice a1 l1 c1] w fun e w' => e = .returned (.bool true) ∧ Below w.heap.size w w' := by
  have hn := Lib.hid n1
  clear n1
  have k1 : Bk (w.alloc (.cells (blk .u8 (x1 ++ marks5)) 5)) w.heap.size (x1 ++ marks5) := heap_alloc_new w _
  have bel1 : Below w.heap.size w (w.alloc (.cells (blk .u8 (x1 ++ marks5)) 5)) := bel_alloc w _
  have hwf := w1.1
  have HFP := Lib.hid (rtuL_wf (u := u) hwf wu)
  have HFX := Lib.hid (ortL_wf hwf)
  have HLP := Lib.hid (rtuL_le u x1)
  have HLX := Lib.hid (ortL_le x1)
  have hu8 := wf_u8 wu
  obtain ⟨E1, hE1⟩ : ∃ E, Hid (rtuE u x1 = E) := ⟨_, Lib.hid rfl⟩
  obtain ⟨E2, hE2⟩ : ∃ E, Hid (ortE x1 = E) := ⟨_, Lib.hid rfl⟩
  obtain ⟨U2, hU2⟩ : ∃ E, Hid (ortU x1 = E) := ⟨_, Lib.hid rfl⟩
  go_enter Try.func7, Try.ntmps7
  go_wp2_with fail
  refine (lent_u8 _ _ _ x1 _ w1 hn.out (by omega)).mono ?_
  rintro e w' ⟨rfl, rfl⟩
  generalize w.alloc (.cells (blk .u8 (x1 ++ marks5)) 5) = w2 at *
  have hs2 := k1.lt
  -- p
  go_wp2_with fail
  refine (rtu_any _ _ _ u x1 _ (k1.row x1 hwf (List.prefix_append _ _)) hn.out).mono ?_
  rintro e w3 ⟨A3, m3, g3, rfl, hm3, hg3, p3, b3⟩
  rw [hE1.out]
  have hM3 := Lib.hid hm3
  have bel3 := bel1.trans (b3.mono bel1.size)
  have k3 := k1.below b3
  have hP3 := Lib.hid p3.lt
  have hs3 := b3.size
  clear b3 k1 hm3
  -- q
  go_wp2_with fail
  refine (refRtu_any _ _ _ u x1 _ ((w1.below bel3).more bel3.size) hn.out).mono ?_
  rintro e w4 ⟨v4, rfl, o4, b4⟩
  rw [hE1.out]
  have bel4 := bel3.trans (b4.mono bel3.size)
  have k4 := k3.below b4
  have p4 := p3.below b4
  have hs4 := b4.size
  clear b4 k3 p3
  -- x
  go_wp2_with fail
  refine (ort_any _ _ _ x1 _ (k4.row x1 hwf (List.prefix_append _ _)) hn.out (by omega)).mono ?_
  rintro e w5 ⟨A5, m5, g5, rfl, hm5, hg5, x5, b5⟩
  rw [hE2.out, hU2.out]
  have hM5 := Lib.hid hm5
  have bel5 := bel4.trans (b5.mono bel4.size)
  have k5 := k4.below b5
  have p5 := p4.below b5
  have o5 := o4.below b5 (Nat.le_refl _)
  have hs5 := b5.size
  clear b5 k4 p4 o4 hm5
  -- y
  go_wp2_with fail
  refine (refOrt_any _ _ _ x1 _ ((w1.below bel5).more bel5.size) hn.out s1).mono ?_
  rintro e w6 ⟨v6, rfl, o6, b6⟩
  rw [hE2.out, hU2.out]
  have bel6 := bel5.trans (b6.mono bel5.size)
  have k6 := k5.below b6
  have p6 := p5.below b6
  have x6 := x5.below b6
  have q6 := o5.below b6 (Nat.le_refl _)
  have hs6 := b6.size
  clear b6 k5 p5 x5 o5
  -- the answers against the document's
  obtain ⟨Aq, cq, rfl, rq, _, _⟩ := q6.row HFP.out
  obtain ⟨Ay, cy, rfl, ry, _, _⟩ := o6.row HFX.out
  rw [hM3.out, hM5.out]
  have t1 : (E1 != E1) = false := by simp
  have t2 : (E2 != E2) = false := by simp
  have t3 : (U2 != U2) = false := by simp
  have rp := p6.row hM3.out HFP.out
  have rx := x6.row hM5.out HFX.out
  have hm3 : m3 ≤ 256 := by have h1 := HLP.out; have h2 := hM3.out; omega
  have hm5 : m5 ≤ 256 := by have h1 := HLX.out; have h2 := hM5.out; omega
  go_wp2_with fail
  refine (same_yes_u8 _ _ _ _ _ (rtuL u x1) _ _ _ rp rq hM3.out (by omega)).mono ?_
  rintro e w7 ⟨rfl, m7, rfl⟩
  go_wp2_with fail
  refine (same_yes_u8 _ _ _ _ _ (ortL x1) _ _ _ (rx.drewN _) (ry.drewN _) hM5.out (by omega)).mono ?_
  rintro e w8 ⟨rfl, m8, rfl⟩
  rw [World.drewN_drewN]
  have bel8 := below_drewN bel6 (m7 + m8)
  have k8 := k6.drewN (m7 + m8)
  have p8 := p6.below (bel_drewN w6 (m7 + m8))
  have x8 := x6.below (bel_drewN w6 (m7 + m8))
  clear k6 p6 x6 rp rx rq ry q6 o6 bel6
  have hs8 : w5.heap.size ≤ (w6.drewN (m7 + m8)).heap.size := hs6
  generalize w6.drewN (m7 + m8) = w8 at *
  -- the lent list
  go_wp2_with fail
  refine (kept_u8 _ _ _ _ x1 _ _ ((w1.below bel8).more bel8.size) hn.out (by omega) k8).mono ?_
  rintro e w9 ⟨rfl, m9, rfl⟩
  have bel9 := below_drewN bel8 m9
  have k9 := k8.drewN m9
  have p9 := p8.below (bel_drewN w8 m9)
  have x9 := x8.below (bel_drewN w8 m9)
  have hs9 : w5.heap.size ≤ (w8.drewN m9).heap.size := hs8
  clear k8 p8 x8 bel8 hs8
  generalize w8.drewN m9 = w9 at *
  have HAP := Lib.hid (apart3O_u8 w9 w.heap.size A3 A5 m3 m5 g3 g5 w.heap.size l1 (rtuL u x1) [nth x1 0] (ortL x1) (x1.drop (x1.length - 2)) x1 34 p9 x9 k9 hM3.out hM5.out hn.out HFP.out HFX.out hwf (Nat.le_refl _) (by omega) (by omega) (by omega) (by omega) (by omega) (hP3.out.elim .inl (fun h => .inr (by omega))) (by omega))
  clear k9 p9 x9
  go_wp2_with fail
  refine HAP.out.mono ?_
  rintro e w10 ⟨rfl, b10⟩
  go_wp2
  go_ret
  exact ⟨rfl, bel9.trans b10⟩
end Go.Proofs.Ytmbjcmagadekpaa
