/-
  Contracts of Get of package frame: a right frame.
-/
import Derived.Test.YtmbjcmagadekpaaFrGet3
namespace Go.Proofs.Ytmbjcmagadekpaa
open Go.RowKit
set_option linter.unusedVariables false

theorem bxh {w0 w : World} {g : Nat} {o : Obj} {P : Prop} (h : Bx w0 g o w ∧ P) : Bx w0 g o w := h.1
theorem Bx.put3 {w0 w : World} {g j : Nat} {o : Obj} (h : Bx w0 g o w) (hg : g < j) (v0 v1 v2 : Value) : Bx w0 g o (put3 w j v0 v1 v2) :=
  ⟨(put3_other (by omega) _ _ _).trans h.1, below_put3 h.2 (by omega) _ _ _⟩
theorem bcell {W w1 : World} (hb : Below W.heap.size W w1) : (∀ b o, b < W.heap.size → w1.cell? ⟨b, o, none⟩ = W.cell? ⟨b, o, none⟩) ∧ (∀ b o, b < W.heap.size → w1.frozen? ⟨b, o, none⟩ = W.frozen? ⟨b, o, none⟩) :=
  ⟨fun b o h => hb.cell (p := ⟨b, o, none⟩) h, fun b o h => hb.frozen (p := ⟨b, o, none⟩) h⟩
set_option maxHeartbeats 2000000 in
set_option maxRecDepth 100000 in
theorem frGet_yes (b0 o0 n c : Nat) (b : List Int) (w : World) (hr : Row .u8 w w.heap.size (some ⟨b0, o0, none⟩) b) (hn : b.length = n) (hc : n ≤ c) (h7 : 7 ≤ n) (hbad : ¬ frBad b) (hs6 : ¬ (b.length : Int) - 6 < frSays b) :
    Calls Try.prog 37 #[.slice (some ⟨b0, o0, none⟩) n c] w (FrGotP w b) := by
  have HE : Hid (frErr b = 0) := Lib.hid (by rw [frErr, if_neg (by omega), if_neg hbad, if_neg hs6])
  have bx := Bx.new w (.cells #[.int .u16 0, .int .u8 0, .slice none 0 0] 57)
  have HR := Lib.hid hr
  have HN := Lib.hid hn
  have q2 := wf_nth8 hr.1 2
  have q3 := wf_nth8 hr.1 3
  have q4 := wf_nth8 hr.1 4
  have q5 := wf_nth8 hr.1 5
  obtain ⟨s, hs⟩ : ∃ s, Hid (nth b 4 * 256 + nth b 5 = s) := ⟨_, Lib.hid rfl⟩
  obtain ⟨z, hz⟩ : ∃ z, Hid (nth b 2 * 256 + nth b 3 = z) := ⟨_, Lib.hid rfl⟩
  have hcases : z = 0 ∧ ¬ s < 2 ∧ ¬ 254 < s ∧ ¬ (n : Int) < 6 + s := by
    unfold frBad frSays at hbad
    unfold frSays at hs6
    have h1 := hs.out
    have h2 := hz.out
    omega
  obtain ⟨rfl, hs0, hs1, hs2⟩ := hcases
  have HQ := Lib.hid (show 0 ≤ s ∧ s < 65536 by have h1 := hs.out; omega)
  have i1 : (6 : Int) ≤ (n : Int) := by omega
  have i2 : (6 : Int) ≤ (c : Int) := by omega
  have i3 : (4 : Int) ≤ (c : Int) := by omega
  have i4 : ¬ c = 4 := by omega
  have i5 : ¬ c = 2 := by omega
  have q0 := wf_nth8 hr.1 0
  have q1 := wf_nth8 hr.1 1
  have q6 := wf_nth8 hr.1 6
  have hS : 2 ≤ s ∧ s ≤ 254 := by omega
  obtain ⟨k, rfl⟩ := Int.eq_ofNat_of_zero_le (show 0 ≤ s by omega)
  have hk : 2 ≤ k ∧ k ≤ 254 := by omega
  have hkn : 6 + k ≤ n := by omega
  have HSY : Hid ((frSays b).toNat = k) := Lib.hid (by unfold frSays; have h1 := hs.out; omega)
  have HLEN : Hid (frLen b = 6 + k) := Lib.hid (by rw [frLen, if_pos HE.out, HSY.out])
  have HG : Hid (frGot b = ⟨nth b 0 * 256 + nth b 1, nth b 6, (b.take (6 + k)).drop 7⟩) := Lib.hid (by rw [frGot, if_pos HE.out, HSY.out])
  have HL : Hid (((b.take (6 + k)).drop 7).length = k - 1) := Lib.hid (by rw [List.length_drop, List.length_take]; omega)
  have HW : Hid (∀ x ∈ (b.take (6 + k)).drop 7, (Lit.int .u8 x).wf = true) := Lib.hid (fun x hx => hr.1 x (List.mem_of_mem_take (List.mem_of_mem_drop hx)))
  have HRR : Hid (∀ W, Below w.heap.size w W → Row .u8 W W.heap.size (some ⟨b0, o0 + 7, none⟩) ((b.take (6 + k)).drop 7)) := Lib.hid (fun W hb => ((((hr.front (6 + k)).drop 7).below hb).more hb.size))
  have HNUM : Hid (∀ W c, Below w.heap.size w W → Calls Try.prog 85 #[.slice (some ⟨b0, o0, none⟩) 2 c] W fun e w' => e = .returned (.int .i64 (nth b 0 * 256 + nth b 1)) ∧ ∃ m, w' = W.drewN m) := Lib.hid (fun W c hb => number_at b0 o0 0 c b W w.heap.size (hr.below hb) (by omega))
  have HC6 : Hid (∀ W, Bx w w.heap.size (.cells #[.int .u16 0, .int .u8 0, .slice none 0 0] 57 (0, 0)) W → Bx w w.heap.size (.cells #[.int .u16 0, .int .u8 0, .slice none 0 0] 57 (0, 0)) W ∧ W.cell? ⟨b0, o0 + 6, none⟩ = some (.int .u8 (nth b 6))) := Lib.hid (by
    intro W hb
    refine ⟨hb, ?_⟩
    obtain ⟨b9, o9, e9, hlt9, hc9⟩ := hr.at_ (i := 6) (by omega)
    injection e9 with e9
    injection e9 with e91 e92
    subst e91 e92
    exact (hb.2.cell (p := ⟨b0, o0 + 6, none⟩) hlt9).trans hc9)
  obtain ⟨id, hid⟩ : ∃ id, Hid (nth b 0 * 256 + nth b 1 = id) := ⟨_, Lib.hid rfl⟩
  obtain ⟨u6, hu6⟩ : ∃ u, Hid (nth b 6 = u) := ⟨_, Lib.hid rfl⟩
  rw [hid.out] at HNUM HG
  rw [hu6.out] at HC6 HG
  have e16 : IntKind.u16.wrap id = id := by rw [IntKind.wrap_u16, ← hid.out]; omega
  have i6 : (7 : Int) ≤ 6 + (k : Int) := by omega
  have i7 : 6 + (k : Int) ≤ (c : Int) := by omega
  have i8 : ¬ c = 7 := by omega
  have i9 : (6 : Int) < (n : Int) := by omega
  have i10 : (2 : Int) ≤ (c : Int) := by omega
  have hk1 : 1 ≤ k - 1 := by omega
  have hk7 : 6 + k - 7 = k - 1 := by omega
  clear hr hn hbad hs6 q0 q1 q2 q3 q4 q5 q6 hk hS
  go_enter Try.func37, Try.ntmps37
  go_wp2_with fail
  refine (number_at b0 o0 4 _ b _ _ (HR.out.below bx.2) (by have := HN.out; omega)).mono ?_
  rintro e w1 ⟨rfl, m1, hw1⟩
  have bx1 : Bx w w.heap.size (.cells #[.int .u16 0, .int .u8 0, .slice none 0 0] 57 (0, 0)) w1 := by rw [hw1]; exact bx.drewN m1
  rw [hs.out]
  clear hw1 bx
  go_wp2_with fail
  refine (number_at b0 o0 2 _ b _ _ (HR.out.below bx1.2) (by have := HN.out; omega)).mono ?_
  rintro e w2 ⟨rfl, m2, hw2⟩
  have bx2 : Bx w w.heap.size (.cells #[.int .u16 0, .int .u8 0, .slice none 0 0] 57 (0, 0)) w2 := by rw [hw2]; exact bx1.drewN m2
  rw [hz.out]
  clear hw2 bx1
  have bxd := bx2.drew
  have hk8 : (6 + (k : Int)).toNat - 7 = k - 1 := by omega
  clear hk7
  go_wp2_with fail
  go_region_held3 (fun w' => Bx w w.heap.size (.cells #[.int .u16 0, .int .u8 0, .slice none 0 0] 57 (0, 0)) w' ∧ w'.cell? ⟨b0, o0 + 6, none⟩ = some (.int .u8 u6))
    ((refine HC6.out _ ?_
      first
      | exact bxd
      | exact bx2.drewN _
      | exact (bx2.alloc _).drewN _
      | exact bx5
      | exact bx5.alloc _
      | exact Bx.put3 bx5 (by have := bx2.lt; simp; omega) _ _ _
      | exact Bx.alloc (bxh (by assumption)) _
      | exact Bx.drewN (bxh (by assumption)) _))
    (first
      | (go_at_call 85; refine (HNUM.out _ _ (bxh (by assumption)).2).mono ?_; rintro e w3 ⟨rfl, m3, rfl⟩)
      | (go_at_call 86; refine (Clone_row b0 (o0 + 7) (k - 1) _ ((b.take (6 + k)).drop 7) _ (HRR.out _ (bxh (by assumption)).2) HL.out hk1 (by omega)).mono ?_; rintro e w5 ⟨v5, rfl, own5, b5⟩; obtain ⟨A5, c5, rfl, _, _, _⟩ := own5.row HW.out; have bx5 := Bx.below (bxh (by assumption)) b5; rw [HL.out] at own5; rw [HL.out]; (try (have hb7 := (b5.block w2.heap.size (by simp)).trans (by first | exact heap_alloc_new (w2.drewN _) (.cells #[.int .u16 0, .int .u8 0, .slice none 0 0] 57) | exact heap_alloc_new w2.drew (.cells #[.int .u16 0, .int .u8 0, .slice none 0 0] 57) | exact heap_alloc_new w2 (.cells #[.int .u16 0, .int .u8 0, .slice none 0 0] 57)); obtain ⟨p0, p1, p2⟩ := cells3 hb7; have p3 := fun i => block_frozen _ _ i _ _ hb7))))
  all_goals
    first
    | (have bx7 := bx5.alloc (.cells #[.int .u16 id, .int .u8 u6, .slice A5 (k - 1) c5] 57)
       have y := cells3 (heap_alloc_new w5 (.cells #[.int .u16 id, .int .u8 u6, .slice A5 (k - 1) c5] 57))
       have own7 := Lib.hid ((own5.below (bel_alloc w5 (.cells #[.int .u16 id, .int .u8 u6, .slice A5 (k - 1) c5] 57)) (Nat.le_refl _)).mono (base' := w.heap.size + 1) bx2.lt)
       show Exit.then _ _ _ _ (w5.alloc (.cells #[.int .u16 id, .int .u8 u6, .slice A5 (k - 1) c5] 57))
       generalize w5.alloc (.cells #[.int .u16 id, .int .u8 u6, .slice A5 (k - 1) c5] 57) = w7 at *)
    | (have bx7 := Bx.put3 bx5 bx2.lt (.int .u16 id) (.int .u8 u6) (.slice A5 (k - 1) c5)
       have y := cells3 (put3_heap hb7 (.int .u16 id) (.int .u8 u6) (.slice A5 (k - 1) c5))
       have own7 := Lib.hid ((own5.put3 (g := w2.heap.size) (by simp) (.int .u16 id) (.int .u8 u6) (.slice A5 (k - 1) c5)).mono (base' := w.heap.size + 1) (by have := bx2.lt; simp; omega))
       show Exit.then _ _ _ _ (put3 w5 w2.heap.size (.int .u16 id) (.int .u8 u6) (.slice A5 (k - 1) c5))
       generalize put3 w5 w2.heap.size (.int .u16 id) (.int .u8 u6) (.slice A5 (k - 1) c5) = w7 at *)
  all_goals
    obtain ⟨y0, y1, y2⟩ := y
    obtain ⟨d0, d1, d2⟩ := cells3 bx7.1
    have fz := fun i => block_frozen _ _ i _ _ bx7.1
    have P5 := Lib.hid (put3_heap bx7.1 (.int .u16 id) (.int .u8 u6) (.slice A5 (k - 1) c5))
    have B5 := Lib.hid (below_put3 bx7.2 (Nat.le_refl _) (.int .u16 id) (.int .u8 u6) (.slice A5 (k - 1) c5))
    have O5 := Lib.hid (own7.out.put3 (g := w.heap.size) (Nat.lt_succ_self _) (.int .u16 id) (.int .u8 u6) (.slice A5 (k - 1) c5))
    have hcast : ((6 + k : Nat) : Int) = 6 + (k : Int) := by omega
    have HCAST := Lib.hid hcast
    clear hcast own7 own5 b5 bx5 bx7
    go_wp2
    (try simp only [Exit.inBlock, Exit.then])
    show bodyPost _ _ _ _ _ (put3 w7 w.heap.size (.int .u16 id) (.int .u8 u6) (.slice A5 (k - 1) c5))
    generalize put3 w7 w.heap.size (.int .u16 id) (.int .u8 u6) (.slice A5 (k - 1) c5) = w9 at *
    obtain ⟨x0, x1, x2⟩ := cells3 P5.out
    refine bodyPost_ret (v := .tuple #[.agg #[.int .u16 id, .int .u8 u6, .slice A5 (k - 1) c5], .int .i64 (6 + (k : Int)), .int .i64 0]) (by simp [results, Try.results37, go_sem, x0, x1, x2]) rfl ?_
    exact ⟨_, by rw [HG.out, HLEN.out, HE.out, HCAST.out], by rw [HG.out]; exact O5.out.mono (Nat.le_succ _), B5.out⟩
theorem frGet_any (A : Option Addr) (n c : Nat) (b : List Int) (w : World) (hr : Row .u8 w w.heap.size A b) (hn : b.length = n) (hc : n ≤ c) :
    Calls Try.prog 37 #[.slice A n c] w (FrGotP w b) := by
  by_cases h7 : n < 7
  · exact frGet_small A n c b w hn h7
  · obtain ⟨b0, o0, rfl, _, _⟩ := hr.at_ (i := 0) (by omega)
    by_cases hb : frBad b
    · exact frGet_form b0 o0 n c b w hr hn hc (by omega) hb
    · by_cases hs : (b.length : Int) - 6 < frSays b
      · exact frGet_part b0 o0 n c b w hr hn hc (by omega) hb hs
      · exact frGet_yes b0 o0 n c b w hr hn hc (by omega) hb hs
end Go.Proofs.Ytmbjcmagadekpaa
